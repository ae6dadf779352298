/-  -/
import Derived.Deep.RegionHeld3
import Derived.BigQuiet
import Derived.Test.YtnchipcpeeofaaaMQ06
import Derived.Test.YtnchipcpeeofaaaMQ07
import Derived.Test.YtnchipcpeeofaaaMQ04
import Derived.Test.YtnchipcpeeofaaaMQ05
import Derived.Test.YtnchipcpeeofaaaMQ03
import Derived.Test.YtnchipcpeeofaaaMQ02
namespace Go.Proofs.Ytnchipcpeeofaaa
open Go.RowKit
set_option linter.unusedVariables false


/-- The cells of an array of nine sets. -/
def OrdC (w : World) (g : Nat) (U : Nat → Nat) : Prop := w.rowIs g 76 9 (fun i => .int .i64 ((U i : Nat) : Int))
theorem OrdC.cell {w : World} {g : Nat} {U : Nat → Nat} (h : OrdC w g U) {i : Nat} (hi : i < 9) : w.cell? ⟨g, i, none⟩ = some (.int .i64 ((U i : Nat) : Int)) := World.rowIs.cell h hi
theorem OrdC.frozen {w : World} {g : Nat} {U : Nat → Nat} (h : OrdC w g U) (i : Nat) : w.frozen? ⟨g, i, none⟩ = false := World.rowIs.frozen h i
theorem OrdC.lt {w : World} {g : Nat} {U : Nat → Nat} (h : OrdC w g U) : g < w.heap.size := World.rowIs.lt h
theorem OrdC.below {w w' : World} {g B : Nat} {U : Nat → Nat} (h : OrdC w g U) (hb : Below B w w') (hB : g < B) : OrdC w' g U := World.rowIs.of_block h (hb.block g (by omega))
theorem OrdC.call {w w' : World} {g : Nat} {U : Nat → Nat} (h : OrdC w g U) (hb : Below w.heap.size w w') : OrdC w' g U := h.below hb h.lt
theorem OrdC.congr {w : World} {g : Nat} {U V : Nat → Nat} (h : OrdC w g U) (e : ∀ i, i < 9 → U i = V i) : OrdC w g V := World.rowIs.congr h fun i hi => by rw [e i hi]
theorem OrdC.put {w : World} {g : Nat} {U : Nat → Nat} (h : OrdC w g U) (a v : Nat) : OrdC (w.setCell ⟨g, a, none⟩ (.int .i64 ((v : Nat) : Int))) g (upd U a v) := (World.rowIs.set h a _).congr fun i _ => by
  unfold upd
  by_cases e : i = a
  · rw [if_pos e, if_pos e]
  · rw [if_neg e, if_neg e]
def nineZ : Array Value := #[.int .i64 0, .int .i64 0, .int .i64 0, .int .i64 0, .int .i64 0, .int .i64 0, .int .i64 0, .int .i64 0, .int .i64 0]
theorem nineZ_at (i : Nat) (hi : i < nineZ.size) : nineZ[i]? = some (.int .i64 ((0 : Nat) : Int)) := by
  have : nineZ.size = 9 := rfl
  match i, hi with
  | 0, _ | 1, _ | 2, _ | 3, _ | 4, _ | 5, _ | 6, _ | 7, _ | 8, _ => rfl
theorem ord_zero (w : World) : OrdC (w.alloc (.cells nineZ 76)) w.heap.size (fun _ => 0) := World.rowIs_alloc w nineZ 76 _ nineZ_at

/-- What is under each thing. -/
def ordU (T : List (List Int)) (i : Nat) : Nat := if i < T.length then undB T i else 0
/-- What is under each thing, under way: the thing a is asked with the things below b. -/
def ordP (T : List (List Int)) (a b i : Nat) : Nat := if i < a then undB T i else if i = a then msk (fun x => blw T x a) b else 0
theorem ordP_start (T : List (List Int)) (i : Nat) : ordP T 0 0 i = 0 := by
  unfold ordP
  rw [if_neg (Nat.not_lt_zero _)]
  split <;> rfl
theorem ordP_round (T : List (List Int)) (a i : Nat) : ordP T a T.length i = ordP T (a + 1) 0 i := by
  unfold ordP
  by_cases h1 : i < a
  · rw [if_pos h1, if_pos (by omega)]
  · rw [if_neg h1]
    by_cases h2 : i = a
    · subst h2
      rw [if_pos rfl, if_pos (by omega)]
      rfl
    · rw [if_neg h2, if_neg (by omega)]
      split <;> rfl
theorem ordP_done (T : List (List Int)) (i : Nat) : ordP T T.length 0 i = ordU T i := by
  unfold ordP ordU
  by_cases h1 : i < T.length
  · rw [if_pos h1, if_pos h1]
  · rw [if_neg h1, if_neg h1]
    split <;> rfl
theorem ordP_at (T : List (List Int)) (a b : Nat) : ordP T a b a = msk (fun x => blw T x a) b := by
  unfold ordP
  rw [if_neg (Nat.lt_irrefl _), if_pos rfl]
theorem ordP_skip {T : List (List Int)} {a b : Nat} (h : blw T b a = false) (i : Nat) : ordP T a b i = ordP T a (b + 1) i := by
  unfold ordP
  rw [msk_or, h]
  simp
theorem ordP_put {T : List (List Int)} {a b : Nat} (i : Nat) : upd (ordP T a b) a (msk (fun x => blw T x a) (b + 1)) i = ordP T a (b + 1) i := by
  unfold upd ordP
  by_cases h : i = a
  · subst h
    rw [if_pos rfl, if_neg (Nat.lt_irrefl _), if_pos rfl]
  · rw [if_neg h, if_neg h, if_neg h]

theorem results_of_cell {fn : Func} {p : Tmp} {ty : TypeId} (h : fn.results = #[.cell p ty]) (tmps : Array Value) (P : Program) (w : World) :
    (results fn tmps).run P w = ((asAddr (tmps.getD p undef)).run P w).andThen fun a w₁ => (loadVar ty a).run P w₁ := by
  simp only [results, h]
  simp [Sem.run_bind, Result.andThen]
set_option maxHeartbeats 1000000 in
theorem res_ord (tmps : Array Value) (g : Nat) (f : Nat → Value) (W : World) (hR : W.rowIs g 76 9 f) (h0 : tmps.getD 2 undef = .pointer (some ⟨g, 0, none⟩)) :
    (results Try.f78 tmps).run Try.prog W = .ok (.agg #[f 0, f 1, f 2, f 3, f 4, f 5, f 6, f 7, f 8]) W := by
  have c0 := hR.cell (i := 0) (by omega)
  have c1 := hR.cell (i := 1) (by omega)
  have c2 := hR.cell (i := 2) (by omega)
  have c3 := hR.cell (i := 3) (by omega)
  have c4 := hR.cell (i := 4) (by omega)
  have c5 := hR.cell (i := 5) (by omega)
  have c6 := hR.cell (i := 6) (by omega)
  have c7 := hR.cell (i := 7) (by omega)
  have c8 := hR.cell (i := 8) (by omega)
  rw [results_of_cell rfl]
  simp [asAddr, Result.andThen, h0, go_sem, c0, c1, c2, c3, c4, c5, c6, c7, c8]

set_option maxRecDepth 20000 in
set_option maxHeartbeats 4000000 in
theorem order_any (A : Option Addr) (c lo hi : Nat) (T : List (List Int)) (w : World) (h : Mat w lo hi A T) (hh : hi ≤ w.heap.size) (k : IsT T) :
    Calls Try.prog 78 #[.agg #[.slice A T.length c]] w fun e w' => e = .returned (.agg #[.int .i64 ((ordU T 0 : Nat) : Int), .int .i64 ((ordU T 1 : Nat) : Int), .int .i64 ((ordU T 2 : Nat) : Int), .int .i64 ((ordU T 3 : Nat) : Int), .int .i64 ((ordU T 4 : Nat) : Int), .int .i64 ((ordU T 5 : Nat) : Int), .int .i64 ((ordU T 6 : Nat) : Int), .int .i64 ((ordU T 7 : Nat) : Int), .int .i64 ((ordU T 8 : Nat) : Int)]) ∧ Below w.heap.size w w' := by
  have k9 := k.hi
  go_enter Try.func78, Try.ntmps78
  go_wp2
  go_loopg [9] T.length (fun g i wr => ∃ a : Nat, a ≤ T.length ∧ Hid (g = T.length - a) ∧ i = .int .i64 a ∧ OrdC wr (w.heap.size + 2) (ordP T a 0) ∧ OrdC wr (w.heap.size + 1) (fun _ => 0) ∧ wr.rowIs w.heap.size 53 1 (fun _ => .slice A T.length c) ∧ Below w.heap.size w wr)
  case atStart =>
    refine ⟨0, Nat.zero_le _, rfl, rfl, ?_, ?_, ?_, ?_⟩
    · have := ord_zero ((w.alloc (.cells #[.slice A T.length c] 53)).alloc (.cells nineZ 76))
      rw [show ((w.alloc (.cells #[.slice A T.length c] 53)).alloc (.cells nineZ 76)).heap.size = w.heap.size + 2 from by simp] at this
      exact this.congr fun i _ => (ordP_start T i).symm
    · have := ord_zero (w.alloc (.cells #[.slice A T.length c] 53))
      rw [show (w.alloc (.cells #[.slice A T.length c] 53)).heap.size = w.heap.size + 1 from by simp] at this
      exact World.rowIs.alloc this _
    · exact World.rowIs.alloc (World.rowIs.alloc (World.rowIs_alloc w #[.slice A T.length c] 53 (fun _ => .slice A T.length c) (fun i hi => by
        match i, hi with
        | 0, _ => rfl)) _) _
    · exact (((Below.refl _ w).alloc (Nat.le_refl _) _).alloc (by simp) _).alloc (by simp; omega) _
  case round =>
    obtain ⟨a, ha, hgk, rfl, hF, hZ, hT, hB⟩ := hrel
    by_cases hlt : a < T.length
    · have hct := World.rowIs.cell hT (i := 0) (by omega)
      go_wp2
      clear hct
      go_loopg [15] T.length (fun g i wi => ∃ b : Nat, b ≤ T.length ∧ Hid (g = T.length - b) ∧ i = .int .i64 b ∧ OrdC wi (w.heap.size + 2) (ordP T a b) ∧ OrdC wi (w.heap.size + 1) (fun _ => 0) ∧ wi.rowIs w.heap.size 53 1 (fun _ => .slice A T.length c) ∧ Below w.heap.size w wi)
      case atStart => exact ⟨0, Nat.zero_le _, rfl, rfl, hF, hZ, hT, hB⟩
      case round =>
        clear hF hZ hT hB
        obtain ⟨b, hb, hgk2, rfl, hF, hZ, hT, hB⟩ := hrel
        by_cases hbt : b < T.length
        · have hct := World.rowIs.cell hT (i := 0) (by omega)
          have hM := h.below hB hh
          have hS := hB.size
          cases hr : rZero T b a
          · have HK := hide (show blw T b a = false from hr)
            go_wp2_with fail
            refine (absorbs_any A c lo hi T b a _ hM (Nat.le_trans hh hS) k hbt hlt).mono ?_
            rw [hr]
            rintro e w2 ⟨rfl, b2⟩
            clear hct hM hr
            go_wp2
            go_roundg (T.length - (b + 1))
            case measure => go_light; have := hgk2.out; omega
            case rel => go_light; exact ⟨b + 1, by omega, rfl, by go_num, (hF.call b2).congr fun i _ => ordP_skip HK.out i, hZ.call b2, World.rowIs.of_block hT (b2.block _ (World.rowIs.lt hT)), hB.trans (b2.mono hS)⟩
          · have HK := hide (show blw T b a = true from hr)
            go_wp2_with fail
            refine (absorbs_any A c lo hi T b a _ hM (Nat.le_trans hh hS) k hbt hlt).mono ?_
            rw [hr]
            rintro e w2 ⟨rfl, b2⟩
            clear hct hM hr
            have hF2 := hF.call b2
            have hZ2 := hZ.call b2
            have hT2 := World.rowIs.of_block hT (b2.block _ (World.rowIs.lt hT))
            have hB2 := hB.trans (b2.mono hS)
            clear hF hZ hT hB b2 hS
            have hca : w2.cell? ⟨w.heap.size + 2, a, none⟩ = some (.int .i64 ((msk (fun x => blw T x a) b : Nat) : Int)) := by have := hF2.cell (i := a) (by omega); rw [ordP_at] at this; exact this
            have hfa := hF2.frozen a
            obtain ⟨p0, p1⟩ := pow_int (show b ≤ 9 by omega)
            have hml : msk (fun x => blw T x a) b < 1024 := by
              have := msk_lt (fun x => blw T x a) b
              have := pow_le9 (show b ≤ 9 by omega)
              omega
            have hor : bits .or .i64 ((msk (fun x => blw T x a) b : Nat) : Int) ((2 : Int) ^ b) = ((msk (fun x => blw T x a) (b + 1) : Nat) : Int) := by
              rw [or_pow hml (by omega), msk_or, HK.out]; rfl
            have Y1 := hide (show OrdC (w2.setCell ⟨w.heap.size + 2, a, none⟩ (.int .i64 ((msk (fun x => blw T x a) (b + 1) : Nat) : Int))) (w.heap.size + 2) (ordP T a (b + 1)) from (hF2.put a _).congr fun i _ => ordP_put i)
            have Y2 := hide (World.rowIs.setOther hZ2 (a := ⟨w.heap.size + 2, a, none⟩) (by show w.heap.size + 1 ≠ w.heap.size + 2; omega) (.int .i64 ((msk (fun x => blw T x a) (b + 1) : Nat) : Int)))
            have Y3 := hide (World.rowIs.setOther hT2 (a := ⟨w.heap.size + 2, a, none⟩) (by show w.heap.size ≠ w.heap.size + 2; omega) (.int .i64 ((msk (fun x => blw T x a) (b + 1) : Nat) : Int)))
            have Y4 := hide (hB2.setCell (p := ⟨w.heap.size + 2, a, none⟩) (by show w.heap.size ≤ w.heap.size + 2; omega) (.int .i64 ((msk (fun x => blw T x a) (b + 1) : Nat) : Int)))
            have Y5 := hide hml
            clear hF2 hZ2 hT2 hB2 hml
            generalize msk (fun x => blw T x a) b = m0 at *
            generalize msk (fun x => blw T x a) (b + 1) = m1 at *
            go_wp2
            go_region
            go_wp2
            go_roundg (T.length - (b + 1))
            case measure => go_light; have := hgk2.out; omega
            case rel => go_light; exact ⟨b + 1, by omega, rfl, by go_num, Y1.out, Y2.out, Y3.out, Y4.out.drew⟩
        · obtain rfl : T.length = b := by omega
          go_wp2
          go_roundg (T.length - (a + 1))
          case measure => go_light; have := hgk.out; omega
          case rel => go_light; exact ⟨a + 1, by omega, rfl, by go_num, hF.congr fun i _ => ordP_round T a i, hZ, hT, hB⟩
    · obtain rfl : T.length = a := by omega
      replace hF : OrdC wr (w.heap.size + 2) (ordU T) := hF.congr fun i _ => ordP_done T i
      have hc0 := World.rowIs.cell hF (i := 0) (by omega)
      have hz0 := World.rowIs.cell hZ (i := 0) (by omega)
      have hf0 : wr.frozen? ⟨w.heap.size + 1, 0, none⟩ = false := World.rowIs.frozen hZ 0
      have hc1 := World.rowIs.cell hF (i := 1) (by omega)
      have hz1 := World.rowIs.cell hZ (i := 1) (by omega)
      have hf1 : wr.frozen? ⟨w.heap.size + 1, 1, none⟩ = false := World.rowIs.frozen hZ 1
      have hc2 := World.rowIs.cell hF (i := 2) (by omega)
      have hz2 := World.rowIs.cell hZ (i := 2) (by omega)
      have hf2 : wr.frozen? ⟨w.heap.size + 1, 2, none⟩ = false := World.rowIs.frozen hZ 2
      have hc3 := World.rowIs.cell hF (i := 3) (by omega)
      have hz3 := World.rowIs.cell hZ (i := 3) (by omega)
      have hf3 : wr.frozen? ⟨w.heap.size + 1, 3, none⟩ = false := World.rowIs.frozen hZ 3
      have hc4 := World.rowIs.cell hF (i := 4) (by omega)
      have hz4 := World.rowIs.cell hZ (i := 4) (by omega)
      have hf4 : wr.frozen? ⟨w.heap.size + 1, 4, none⟩ = false := World.rowIs.frozen hZ 4
      have hc5 := World.rowIs.cell hF (i := 5) (by omega)
      have hz5 := World.rowIs.cell hZ (i := 5) (by omega)
      have hf5 : wr.frozen? ⟨w.heap.size + 1, 5, none⟩ = false := World.rowIs.frozen hZ 5
      have hc6 := World.rowIs.cell hF (i := 6) (by omega)
      have hz6 := World.rowIs.cell hZ (i := 6) (by omega)
      have hf6 : wr.frozen? ⟨w.heap.size + 1, 6, none⟩ = false := World.rowIs.frozen hZ 6
      have hc7 := World.rowIs.cell hF (i := 7) (by omega)
      have hz7 := World.rowIs.cell hZ (i := 7) (by omega)
      have hf7 : wr.frozen? ⟨w.heap.size + 1, 7, none⟩ = false := World.rowIs.frozen hZ 7
      have hc8 := World.rowIs.cell hF (i := 8) (by omega)
      have hz8 := World.rowIs.cell hZ (i := 8) (by omega)
      have hf8 : wr.frozen? ⟨w.heap.size + 1, 8, none⟩ = false := World.rowIs.frozen hZ 8
      have hR := ((((((((World.rowIs.set hZ 0 (.int .i64 ((ordU T 0 : Nat) : Int))).set 1 (.int .i64 ((ordU T 1 : Nat) : Int))).set 2 (.int .i64 ((ordU T 2 : Nat) : Int))).set 3 (.int .i64 ((ordU T 3 : Nat) : Int))).set 4 (.int .i64 ((ordU T 4 : Nat) : Int))).set 5 (.int .i64 ((ordU T 5 : Nat) : Int))).set 6 (.int .i64 ((ordU T 6 : Nat) : Int))).set 7 (.int .i64 ((ordU T 7 : Nat) : Int))).set 8 (.int .i64 ((ordU T 8 : Nat) : Int))
      have hB9 := ((((((((hB.setCell (p := ⟨w.heap.size + 1, 0, none⟩) (by show w.heap.size ≤ w.heap.size + 1; omega) (.int .i64 ((ordU T 0 : Nat) : Int))).setCell (p := ⟨w.heap.size + 1, 1, none⟩) (by show w.heap.size ≤ w.heap.size + 1; omega) (.int .i64 ((ordU T 1 : Nat) : Int))).setCell (p := ⟨w.heap.size + 1, 2, none⟩) (by show w.heap.size ≤ w.heap.size + 1; omega) (.int .i64 ((ordU T 2 : Nat) : Int))).setCell (p := ⟨w.heap.size + 1, 3, none⟩) (by show w.heap.size ≤ w.heap.size + 1; omega) (.int .i64 ((ordU T 3 : Nat) : Int))).setCell (p := ⟨w.heap.size + 1, 4, none⟩) (by show w.heap.size ≤ w.heap.size + 1; omega) (.int .i64 ((ordU T 4 : Nat) : Int))).setCell (p := ⟨w.heap.size + 1, 5, none⟩) (by show w.heap.size ≤ w.heap.size + 1; omega) (.int .i64 ((ordU T 5 : Nat) : Int))).setCell (p := ⟨w.heap.size + 1, 6, none⟩) (by show w.heap.size ≤ w.heap.size + 1; omega) (.int .i64 ((ordU T 6 : Nat) : Int))).setCell (p := ⟨w.heap.size + 1, 7, none⟩) (by show w.heap.size ≤ w.heap.size + 1; omega) (.int .i64 ((ordU T 7 : Nat) : Int))).setCell (p := ⟨w.heap.size + 1, 8, none⟩) (by show w.heap.size ≤ w.heap.size + 1; omega) (.int .i64 ((ordU T 8 : Nat) : Int))
      clear hF hZ hT hB
      go_wp2
      exact bodyPost_ret (res_ord _ _ _ _ hR rfl) rfl ⟨rfl, hB9⟩

end Go.Proofs.Ytnchipcpeeofaaa

namespace Go.Proofs.Ytnchipcpeeofaaa
open Go.RowKit
set_option linter.unusedVariables false


theorem row_new {W : World} {xs : List Int} (cs : Array Value) (hc : cs = (xs.map (Value.int .i64)).toArray) : Row (W.alloc (.cells cs 3)) W.heap.size (W.heap.size + 1) (some ⟨W.heap.size, 0, none⟩) xs := fun j hj => by
  subst hc
  exact ⟨W.heap.size, 0, rfl, Nat.le_refl _, Nat.lt_succ_self _, by simp [el, List.getD, hj]⟩
theorem okRow1 (T : List (List Int)) (x : Int) : okRow T.length [x] = inT T x := by
  unfold okRow inT
  simp only [List.all_cons, List.all_nil, Bool.and_true]
  have : decide (x < (T.length : Int)) = decide (x ≤ (T.length : Int) - 1) := decide_eq_decide.2 (by omega)
  rw [this]

set_option maxHeartbeats 2000000 in
theorem thingsOfBand_any (A A2 : Option Addr) (c c2 lo hi lo2 hi2 : Nat) (T : List (List Int)) (xs : List Int) (w : World) (h : Mat w lo hi A T) (hh : hi ≤ w.heap.size) (hS : Small T) (h2 : Row w lo2 hi2 A2 xs) (hh2 : hi2 ≤ w.heap.size) (hn : xs.length ≤ 1048576) :
    Calls Try.prog 76 #[.slice A T.length c, .slice A2 xs.length c2] w fun e w' => e = .returned (.bool (bandT T && okRow T.length xs)) ∧ Below w.heap.size w w' := by
  have hl := hS.len
  cases hb : bandT T
  · go_enter Try.func76, Try.ntmps76
    go_wp2_with fail
    refine (iBandOk_any A c lo hi T w h hh hS).mono ?_
    rw [hb]
    rintro e w1 ⟨rfl, b1⟩
    go_wp2
    go_ret
    exact ⟨rfl, b1⟩
  · go_enter Try.func76, Try.ntmps76
    go_wp2_with fail
    refine (iBandOk_any A c lo hi T w h hh hS).mono ?_
    rw [hb]
    rintro e w1 ⟨rfl, b1⟩
    have h21 := h2.below b1 hh2
    go_wp2_with fail
    refine (allThings_any A2 c2 lo2 hi2 T.length xs _ h21 hn hl).mono ?_
    rintro e w2 ⟨rfl, rfl⟩
    go_wp2
    go_ret
    exact ⟨rfl, b1⟩

theorem index_ord0 (U : Nat → Nat) (w : World) : (Instr.index 76 (.agg #[.int .i64 ((U 0 : Nat) : Int), .int .i64 ((U 1 : Nat) : Int), .int .i64 ((U 2 : Nat) : Int), .int .i64 ((U 3 : Nat) : Int), .int .i64 ((U 4 : Nat) : Int), .int .i64 ((U 5 : Nat) : Int), .int .i64 ((U 6 : Nat) : Int), .int .i64 ((U 7 : Nat) : Int), .int .i64 ((U 8 : Nat) : Int)]) (.int .i64 ((0 : Nat) : Int))).run Try.prog w = .ok (.int .i64 ((U 0 : Nat) : Int)) w := by kernel_rfl
theorem index_ord1 (U : Nat → Nat) (w : World) : (Instr.index 76 (.agg #[.int .i64 ((U 0 : Nat) : Int), .int .i64 ((U 1 : Nat) : Int), .int .i64 ((U 2 : Nat) : Int), .int .i64 ((U 3 : Nat) : Int), .int .i64 ((U 4 : Nat) : Int), .int .i64 ((U 5 : Nat) : Int), .int .i64 ((U 6 : Nat) : Int), .int .i64 ((U 7 : Nat) : Int), .int .i64 ((U 8 : Nat) : Int)]) (.int .i64 ((1 : Nat) : Int))).run Try.prog w = .ok (.int .i64 ((U 1 : Nat) : Int)) w := by kernel_rfl
theorem index_ord2 (U : Nat → Nat) (w : World) : (Instr.index 76 (.agg #[.int .i64 ((U 0 : Nat) : Int), .int .i64 ((U 1 : Nat) : Int), .int .i64 ((U 2 : Nat) : Int), .int .i64 ((U 3 : Nat) : Int), .int .i64 ((U 4 : Nat) : Int), .int .i64 ((U 5 : Nat) : Int), .int .i64 ((U 6 : Nat) : Int), .int .i64 ((U 7 : Nat) : Int), .int .i64 ((U 8 : Nat) : Int)]) (.int .i64 ((2 : Nat) : Int))).run Try.prog w = .ok (.int .i64 ((U 2 : Nat) : Int)) w := by kernel_rfl
theorem index_ord3 (U : Nat → Nat) (w : World) : (Instr.index 76 (.agg #[.int .i64 ((U 0 : Nat) : Int), .int .i64 ((U 1 : Nat) : Int), .int .i64 ((U 2 : Nat) : Int), .int .i64 ((U 3 : Nat) : Int), .int .i64 ((U 4 : Nat) : Int), .int .i64 ((U 5 : Nat) : Int), .int .i64 ((U 6 : Nat) : Int), .int .i64 ((U 7 : Nat) : Int), .int .i64 ((U 8 : Nat) : Int)]) (.int .i64 ((3 : Nat) : Int))).run Try.prog w = .ok (.int .i64 ((U 3 : Nat) : Int)) w := by kernel_rfl
theorem index_ord4 (U : Nat → Nat) (w : World) : (Instr.index 76 (.agg #[.int .i64 ((U 0 : Nat) : Int), .int .i64 ((U 1 : Nat) : Int), .int .i64 ((U 2 : Nat) : Int), .int .i64 ((U 3 : Nat) : Int), .int .i64 ((U 4 : Nat) : Int), .int .i64 ((U 5 : Nat) : Int), .int .i64 ((U 6 : Nat) : Int), .int .i64 ((U 7 : Nat) : Int), .int .i64 ((U 8 : Nat) : Int)]) (.int .i64 ((4 : Nat) : Int))).run Try.prog w = .ok (.int .i64 ((U 4 : Nat) : Int)) w := by kernel_rfl
theorem index_ord5 (U : Nat → Nat) (w : World) : (Instr.index 76 (.agg #[.int .i64 ((U 0 : Nat) : Int), .int .i64 ((U 1 : Nat) : Int), .int .i64 ((U 2 : Nat) : Int), .int .i64 ((U 3 : Nat) : Int), .int .i64 ((U 4 : Nat) : Int), .int .i64 ((U 5 : Nat) : Int), .int .i64 ((U 6 : Nat) : Int), .int .i64 ((U 7 : Nat) : Int), .int .i64 ((U 8 : Nat) : Int)]) (.int .i64 ((5 : Nat) : Int))).run Try.prog w = .ok (.int .i64 ((U 5 : Nat) : Int)) w := by kernel_rfl
theorem index_ord6 (U : Nat → Nat) (w : World) : (Instr.index 76 (.agg #[.int .i64 ((U 0 : Nat) : Int), .int .i64 ((U 1 : Nat) : Int), .int .i64 ((U 2 : Nat) : Int), .int .i64 ((U 3 : Nat) : Int), .int .i64 ((U 4 : Nat) : Int), .int .i64 ((U 5 : Nat) : Int), .int .i64 ((U 6 : Nat) : Int), .int .i64 ((U 7 : Nat) : Int), .int .i64 ((U 8 : Nat) : Int)]) (.int .i64 ((6 : Nat) : Int))).run Try.prog w = .ok (.int .i64 ((U 6 : Nat) : Int)) w := by kernel_rfl
theorem index_ord7 (U : Nat → Nat) (w : World) : (Instr.index 76 (.agg #[.int .i64 ((U 0 : Nat) : Int), .int .i64 ((U 1 : Nat) : Int), .int .i64 ((U 2 : Nat) : Int), .int .i64 ((U 3 : Nat) : Int), .int .i64 ((U 4 : Nat) : Int), .int .i64 ((U 5 : Nat) : Int), .int .i64 ((U 6 : Nat) : Int), .int .i64 ((U 7 : Nat) : Int), .int .i64 ((U 8 : Nat) : Int)]) (.int .i64 ((7 : Nat) : Int))).run Try.prog w = .ok (.int .i64 ((U 7 : Nat) : Int)) w := by kernel_rfl
theorem index_ord8 (U : Nat → Nat) (w : World) : (Instr.index 76 (.agg #[.int .i64 ((U 0 : Nat) : Int), .int .i64 ((U 1 : Nat) : Int), .int .i64 ((U 2 : Nat) : Int), .int .i64 ((U 3 : Nat) : Int), .int .i64 ((U 4 : Nat) : Int), .int .i64 ((U 5 : Nat) : Int), .int .i64 ((U 6 : Nat) : Int), .int .i64 ((U 7 : Nat) : Int), .int .i64 ((U 8 : Nat) : Int)]) (.int .i64 ((8 : Nat) : Int))).run Try.prog w = .ok (.int .i64 ((U 8 : Nat) : Int)) w := by kernel_rfl
theorem index_ord (U : Nat → Nat) (a : Nat) (ha : a < 9) (w : World) : (Instr.index 76 (.agg #[.int .i64 ((U 0 : Nat) : Int), .int .i64 ((U 1 : Nat) : Int), .int .i64 ((U 2 : Nat) : Int), .int .i64 ((U 3 : Nat) : Int), .int .i64 ((U 4 : Nat) : Int), .int .i64 ((U 5 : Nat) : Int), .int .i64 ((U 6 : Nat) : Int), .int .i64 ((U 7 : Nat) : Int), .int .i64 ((U 8 : Nat) : Int)]) (.int .i64 (a : Nat))).run Try.prog w = .ok (.int .i64 ((U a : Nat) : Int)) w := by
  have h : a = 0 ∨ a = 1 ∨ a = 2 ∨ a = 3 ∨ a = 4 ∨ a = 5 ∨ a = 6 ∨ a = 7 ∨ a = 8 := by omega
  rcases h with rfl | rfl | rfl | rfl | rfl | rfl | rfl | rfl | rfl
  · exact index_ord0 U w
  · exact index_ord1 U w
  · exact index_ord2 U w
  · exact index_ord3 U w
  · exact index_ord4 U w
  · exact index_ord5 U w
  · exact index_ord6 U w
  · exact index_ord7 U w
  · exact index_ord8 U w
set_option maxRecDepth 20000 in
set_option maxHeartbeats 4000000 in
theorem iUnderSet_any (A : Option Addr) (c lo hi : Nat) (T : List (List Int)) (x : Int) (w : World) (h : Mat w lo hi A T) (hh : hi ≤ w.heap.size) (hS : Small T) :
    Calls Try.prog 39 #[.slice A T.length c, .int .i64 x] w fun e w' => e = .returned (.int .i64 (underS T x)) ∧ Below w.heap.size w w' := by
  have b0 := (Below.refl w.heap.size w).alloc (Nat.le_refl _) (.cells #[.int .i64 x] 3)
  cases hcan : (bandT T && inT T x)
  · have HF := hide (underS_not (T := T) hcan)
    go_enter Try.func39, Try.ntmps39
    go_wp2_with fail
    refine (thingsOfBand_any A (some ⟨w.heap.size, 0, none⟩) c 1 lo hi w.heap.size (w.heap.size + 1) T [x] _ (h.below b0 hh) (by simp; omega) hS (row_new (W := w) #[.int .i64 x] rfl) (by simp) (by simp)).mono ?_
    rw [okRow1, hcan]
    rintro e w1 ⟨rfl, b1⟩
    have B1 := b0.trans (b1.mono (by simp))
    go_wp2
    go_ret
    exact ⟨ret_int HF.out.symm, B1⟩
  · obtain ⟨hb, a, rfl, ha⟩ := can1.1 hcan
    have HE := hide (underS_of hb ha)
    have k := band_tab hb
    have k9 := k.hi
    go_enter Try.func39, Try.ntmps39
    go_wp2_with fail
    refine (thingsOfBand_any A (some ⟨w.heap.size, 0, none⟩) c 1 lo hi w.heap.size (w.heap.size + 1) T [(a : Int)] _ (h.below b0 hh) (by simp; omega) hS (row_new (W := w) #[.int .i64 (a : Int)] rfl) (by simp) (by simp)).mono ?_
    rw [okRow1, hcan]
    rintro e w1 ⟨rfl, b1⟩
    have B1 := b0.trans (b1.mono (by simp))
    have HU := hide (show ordU T a = undB T a from by unfold ordU; rw [if_pos ha])
    have hix := index_ord (ordU T) a (by omega)
    go_wp2_with fail
    refine (order_any A c lo hi T _ (h.below B1 hh) (Nat.le_trans hh B1.size) k).mono ?_
    rintro e w2 ⟨rfl, b2⟩
    go_wp2
    go_ret
    exact ⟨ret_int (by rw [HE.out, HU.out]), B1.trans (b2.mono B1.size)⟩

end Go.Proofs.Ytnchipcpeeofaaa

namespace Go.Proofs.Ytnchipcpeeofaaa
open Go.RowKit
set_option linter.unusedVariables false
set_option linter.unusedSimpArgs false

/-- A row of n numbers, of which the first a are told. -/
def RowF (w : World) (g n a : Nat) (f : Nat → Int) : Prop := w.rowIs g 3 n (fun j => if j < a then .int .i64 (f j) else .int .i64 0)
theorem RowF.next {w : World} {g n a : Nat} {f : Nat → Int} (h : RowF w g n a f) : RowF (w.setCell ⟨g, a, none⟩ (.int .i64 (f a))) g n (a + 1) f := (World.rowIs.set h a _).congr fun j _ => by
  by_cases e : j = a
  · subst e; simp
  · rw [if_neg e]
    by_cases hlt : j < a
    · rw [if_pos hlt, if_pos (by omega)]
    · rw [if_neg hlt, if_neg (by omega)]
theorem RowF.below {w w' : World} {g n a : Nat} {f : Nat → Int} (h : RowF w g n a f) (hb : Below w.heap.size w w') : RowF w' g n a f := by
  have hl := World.rowIs.lt h
  exact World.rowIs.of_block h (hb.block g hl)
theorem RowF.done {w : World} {g n lo : Nat} {f : Nat → Int} (h : RowF w g n n f) (hg : lo ≤ g) (hlt : g < w.heap.size) : ORow w lo w.heap.size (some ⟨g, 0, none⟩) ((List.range n).map f) := .inr ⟨g, rfl, hg, hlt, Cells.of_rowIs h (by simp) (fun j hj => by
  rw [List.length_map, List.length_range] at hj
  simp [el, List.getD, hj])⟩

set_option maxRecDepth 20000 in
set_option maxHeartbeats 4000000 in
theorem iPushingOf_any (A : Option Addr) (c lo hi : Nat) (T : List (List Int)) (x : Int) (w : World) (h : Mat w lo hi A T) (hh : hi ≤ w.heap.size) (hS : Small T) :
    Calls Try.prog 36 #[.slice A T.length c, .int .i64 x] w (OwnRow w (pushL T x)) := by
  have b0 := (Below.refl w.heap.size w).alloc (Nat.le_refl _) (.cells #[.int .i64 x] 3)
  cases hcan : (bandT T && inT T x)
  · have HF := hide (pushL_not (T := T) hcan)
    go_enter Try.func36, Try.ntmps36
    go_wp2_with fail
    refine (thingsOfBand_any A (some ⟨w.heap.size, 0, none⟩) c 1 lo hi w.heap.size (w.heap.size + 1) T [x] _ (h.below b0 hh) (by simp; omega) hS (row_new (W := w) #[.int .i64 x] rfl) (by simp) (by simp)).mono ?_
    rw [okRow1, hcan]
    rintro e w1 ⟨rfl, b1⟩
    have B1 := b0.trans (b1.mono (by simp))
    go_wp2
    go_ret
    rw [HF.out]
    exact ⟨none, 0, rfl, B1, ORow.nil _ _ _ _, Nat.le_refl _, by omega⟩
  · obtain ⟨hb, a, rfl, ha⟩ := can1.1 hcan
    have HE := hide (pushL_ok hb ha)
    have k := band_tab hb
    have k9 := k.hi
    go_enter Try.func36, Try.ntmps36
    go_wp2_with fail
    refine (thingsOfBand_any A (some ⟨w.heap.size, 0, none⟩) c 1 lo hi w.heap.size (w.heap.size + 1) T [(a : Int)] _ (h.below b0 hh) (by simp; omega) hS (row_new (W := w) #[.int .i64 (a : Int)] rfl) (by simp) (by simp)).mono ?_
    rw [okRow1, hcan]
    rintro e w1 ⟨rfl, b1⟩
    have B1 := b0.trans (b1.mono (by simp))
    obtain ⟨w2, hw2⟩ : ∃ w2, w2 = w1.alloc (.cells #[.slice A T.length c] 53) := ⟨_, rfl⟩
    have b2 : Below w1.heap.size w1 w2 := by rw [hw2]; exact (Below.refl w1.heap.size w1).alloc (Nat.le_refl _) _
    have z2 : w2.heap.size = w1.heap.size + 1 := by rw [hw2]; simp
    have c2 : w2.cell? ⟨w1.heap.size, 0, none⟩ = some (.slice A T.length c) := by rw [hw2]; simp
    have B2 := B1.trans (b2.mono B1.size)
    have HW2 := hide hw2
    have MK := hide (fun (W : World) (hW : Below w2.heap.size w2 W) =>
      (⟨(hW.cell (p := ⟨w1.heap.size, 0, none⟩) (by show w1.heap.size < _; omega)).trans c2, h.below (B2.trans (hW.mono B2.size)) hh, Nat.le_trans hh (B2.trans (hW.mono B2.size)).size⟩ :
        W.cell? ⟨w1.heap.size, 0, none⟩ = some (.slice A T.length c) ∧ Mat W lo hi A T ∧ hi ≤ W.heap.size))
    have HB2 := hide B2
    have hmk := run_make_row' (P := Try.prog) 24 3 (.int .i64 0) 8 Try.underlying24 info_int rfl .i64 .i64 T.length (by omega) (by omega)
    have HZ2 := hide z2
    clear hw2 b2 z2 c2 B2 B1 b1 b0 h hcan
    go_wp2
    rw [← HW2.out]
    clear hmk
    go_loopg [20] T.length (fun m i wr => ∃ b : Nat, b ≤ T.length ∧ Hid (m = T.length - b) ∧ i = .int .i64 b ∧ Hid (RowF wr (w1.heap.size + 1) T.length b (fun b => mul T (mul T (a : Int) (b : Int)) (a : Int))) ∧ Hid (Below w2.heap.size w2 wr))
    case atStart => exact ⟨0, Nat.zero_le _, rfl, rfl, by rw [← HZ2.out]; exact (World.rowIs_made w2 _ T.length 3).congr (fun j _ => by simp), (Below.refl _ _).alloc (Nat.le_refl _) _⟩
    case round =>
      obtain ⟨b, hb', hm, rfl, hF, hB⟩ := hrel
      by_cases hlt : b < T.length
      · obtain ⟨hcell, hT, hs⟩ := MK.out _ hB.out
        go_wp2_with fail
        refine (around_any A c lo hi T a b wr hT hs k ha hlt).mono ?_
        rintro e w4 ⟨rfl, b4⟩
        have hF4 := hF.out.below b4
        have hB4 := hB.out.trans (b4.mono hB.out.size)
        have hnow := World.rowIs.cell hF4 hlt
        have hfr := World.rowIs.frozen hF4 b
        have HN := hide hF4.next
        have HB := hide hB4
        clear hF hF4 hT hs hcell b4 hB hB4
        go_wp2
        go_roundg (T.length - (b + 1))
        case measure => go_light; have := hm.out; omega
        case rel => go_light; exact ⟨b + 1, by omega, rfl, by go_num, HN.out, HB.out.setCell (p := ⟨w1.heap.size + 1, b, none⟩) (by show w2.heap.size ≤ _; rw [HZ2.out]; exact Nat.le_refl _) _⟩
      · obtain rfl : T.length = b := by omega
        have HL := hide (World.rowIs.lt hF.out)
        go_wp2
        go_ret
        rw [HE.out]
        have e : (Ending.returned (.slice (some ⟨w1.heap.size + 1, 0, none⟩) T.length T.length)) = .returned (.slice (some ⟨w1.heap.size + 1, 0, none⟩) ((List.range T.length).map fun b : Nat => mul T (mul T (a : Int) (b : Int)) (a : Int)).length T.length) := by simp
        exact ⟨_, T.length, e, HB2.out.trans (hB.out.mono HB2.out.size), hF.out.done (by have := HB2.out.size; have := HZ2.out; omega) HL.out, by simp, by omega⟩

/-- A row of n digits. -/
def DigR (w : World) (g n : Nat) (d : Nat → Nat) : Prop := w.rowIs g 3 n (fun j => .int .i64 ((d j : Nat) : Int))
theorem DigR.congr {w : World} {g n : Nat} {d e : Nat → Nat} (h : DigR w g n d) (he : ∀ j, j < n → d j = e j) : DigR w g n e := World.rowIs.congr h fun j hj => by rw [he j hj]
theorem DigR.put {w : World} {g n : Nat} {d : Nat → Nat} (h : DigR w g n d) (a v : Nat) : DigR (w.setCell ⟨g, a, none⟩ (.int .i64 ((v : Nat) : Int))) g n (fun j => if j = a then v else d j) := (World.rowIs.set h a _).congr fun j _ => by
  by_cases e : j = a
  · rw [if_pos e]; simp only [if_pos e]
  · rw [if_neg e]; simp only [if_neg e]
theorem DigR.cells {w : World} {g m n k : Nat} (h : DigR w g n (dgt m k)) : Cells w g (digL m n k) := Cells.of_rowIs h (by rw [len_digL]; exact Nat.le_refl _) (fun j hj => by
  rw [len_digL] at hj
  rw [el_dgt hj])

set_option maxRecDepth 20000 in
set_option maxHeartbeats 4000000 in
theorem countUp_any (g n m k : Nat) (w : World) (h : DigR w g n (dgt m k)) (hm : 0 < m) (hm9 : m ≤ 9) (hn : n ≤ 9) (hk : k < m ^ n) :
    Calls Try.prog 86 #[.slice (some ⟨g, 0, none⟩) n n, .int .i64 m] w fun e w' => e = .returned (.bool (decide (k + 1 < m ^ n))) ∧ DigR w' g n (dgt m (k + 1)) ∧ Only g (g + 1) w w' := by
  have HD := hide h
  have HK := hide hk
  clear hk h
  go_enter Try.func86, Try.ntmps86
  go_wp2
  go_loopg [8] n (fun q i wr => ∃ p : Nat, p ≤ n ∧ Hid (q = n - p) ∧ i = .int .i64 p ∧ Hid (DigR wr g n (upD m k p)) ∧ Hid (Carry m k p) ∧ Hid (Only g (g + 1) w wr))
  case atStart => exact ⟨0, Nat.zero_le _, rfl, rfl, HD.out.congr fun j _ => (upD_zero m k j).symm, carry_zero m k, Only.refl _ _ _⟩
  case round =>
    obtain ⟨p, hp, hq, rfl, hR, hC, hO⟩ := hrel
    by_cases hlt : p < n
    · obtain ⟨d, hd⟩ : ∃ d, d = dgt m k p := ⟨_, rfl⟩
      have hdm : d < m := by rw [hd]; exact dgt_lt hm
      have c0 := World.rowIs.cell hR.out hlt
      have f0 := World.rowIs.frozen hR.out p
      rw [upD_at, ← hd] at c0
      have hR1 := hR.out.put p (d + 1)
      have c1 := World.rowIs.cell hR1 hlt
      have f1 := World.rowIs.frozen hR1 p
      have c1 : (wr.setCell ⟨g, p, none⟩ (.int .i64 ((d + 1 : Nat) : Int))).cell? ⟨g, p, none⟩ = some (.int .i64 ((d + 1 : Nat) : Int)) := c1.trans (by simp)
      have he : ((d + 1 : Nat) : Int) = (d : Int) + 1 := by omega
      rw [he] at c1 f1
      have HR1 := hide (show (wr.setCell ⟨g, p, none⟩ (.int .i64 ((d : Int) + 1))).rowIs g 3 n _ from by rw [← he]; exact hR1)
      have HO1 := hide (hO.out.setCell (p := ⟨g, p, none⟩) (Nat.le_refl _) (Nat.lt_succ_self _) (.int .i64 ((d : Int) + 1)))
      clear he hR1
      have HDD := hide hd
      clear hd
      by_cases hs : d + 1 < m
      · have hsi : (d : Int) + 1 < (m : Int) := by omega
        have HS := hide hs
        clear hs
        go_wp2
        go_ret
        refine ⟨ret_bool (decide_eq_true ?_).symm, ?_, HO1.out⟩
        · exact stop_lt hm hC.out (by rw [← HDD.out]; exact HS.out) HK.out hlt
        · exact World.rowIs.congr HR1.out fun j hj => by
            rw [dgt_stop hm hC.out (by rw [← HDD.out]; exact HS.out) j, ← HDD.out]
      · have hsi : ¬ (d : Int) + 1 < (m : Int) := by omega
        have HS := hide (show dgt m k p + 1 = m from by rw [← HDD.out]; omega)
        clear hs
        have HN := hide (World.rowIs.set HR1.out p (.int .i64 0))
        have HO2 := hide (HO1.out.setCell (p := ⟨g, p, none⟩) (Nat.le_refl _) (Nat.lt_succ_self _) (.int .i64 0))
        go_wp2
        go_roundg (n - (p + 1))
        case measure => go_light; have := hq.out; omega
        case rel => go_light; exact ⟨p + 1, by omega, rfl, by go_num, World.rowIs.congr HN.out fun j hj => by
            by_cases e : j = p
            · subst e
              rw [if_pos rfl, upD_last]; rfl
            · rw [if_neg e, if_neg e, upD_next e], carry_next hC.out HS.out, HO2.out⟩
    · obtain rfl : n = p := by omega
      have HA := hide (carry_all hC.out HK.out)
      go_wp2
      go_ret
      exact ⟨ret_bool (decide_eq_false (by have := HA.out; omega)).symm, hR.out.congr fun j hj => (dgt_all hm hC.out hj).symm, hO.out⟩
end Go.Proofs.Ytnchipcpeeofaaa

namespace Go.Proofs.Ytnchipcpeeofaaa
open Go.RowKit
set_option linter.unusedVariables false


set_option maxRecDepth 20000 in
set_option maxHeartbeats 2000000 in
theorem sBandOk_any (A : Option Addr) (c lo hi : Nat) (T : List (List Int)) (w : World) (h : Mat w lo hi A T) (hS : Small T) :
    Calls Try.prog 21 #[.slice A T.length c] w fun e w' => e = .returned (.bool (bandT T)) ∧ QD w w' := by
  have hlT := hS.len
  cases hg : grpT T
  · by_cases h0 : T.length = 0
    · have hz : ¬ (0 : Int) < (T.length : Int) := by omega
      clear h0
      go_enter Try.func21, Try.ntmps21
      go_wp2
      go_loopg [3] 1 (fun g i wr => i = .int .i64 0 ∧ w = wr)
      case atStart => exact ⟨rfl, rfl⟩
      case round =>
        obtain ⟨rfl, rfl⟩ := hrel
        go_wp2_with (go_at_call 55; refine (sGroupedOk_any _ _ _ _ _ _ h hS).mono ?_; rw [hg]; rintro e w1 ⟨rfl, q1⟩)
        go_ret
        exact ⟨ret_bool (bandT_grp hg).symm, q1⟩
    · have hz : (0 : Int) < (T.length : Int) := by omega
      clear h0
      go_enter Try.func21, Try.ntmps21
      go_wp2
      go_loopg [3] 1 (fun g i wr => i = .int .i64 0 ∧ w = wr)
      case atStart => exact ⟨rfl, rfl⟩
      case round =>
        obtain ⟨rfl, rfl⟩ := hrel
        go_wp2_with fail
        refine (sGroupedOk_any _ _ _ _ _ _ h hS).mono ?_
        rw [hg]
        rintro e w1 ⟨rfl, q1⟩
        go_wp2_with fail
        refine (sGroupedOk_any _ _ _ _ _ _ (h.quiet q1) hS).mono ?_
        rw [hg]
        rintro e w2 ⟨rfl, q2⟩
        go_wp2
        go_ret
        exact ⟨ret_bool (bandT_grp hg).symm, q1.trans q2⟩
  · have k := (grpT_iff.1 hg).tab
    have HE := hide (show bandT T = allRR T.length (rOwn T) from by unfold bandT; rw [hg]; rfl)
    obtain ⟨bb, oo, rfl, _, _, hcell⟩ := h.head k
    go_enter Try.func21, Try.ntmps21
    go_wp2
    go_loopg [3] T.length (fun g i wr => ∃ a : Nat, a ≤ T.length ∧ Hid (g = T.length - a) ∧ i = .int .i64 a ∧ QD w wr ∧ Hid (∀ j, j < a → allR T.length (rOwn T) j = true))
    case atStart => exact ⟨0, Nat.zero_le _, rfl, rfl, QD.refl _, fun _ hj => absurd hj (Nat.not_lt_zero _)⟩
    case round =>
      obtain ⟨a, ha, hgk, rfl, hq, hH⟩ := hrel
      by_cases hlt : a < T.length
      · go_wp2_with fail
        refine (sGroupedOk_any _ _ _ _ _ _ (h.quiet hq) hS).mono ?_
        rw [hg]
        rintro e w1 ⟨rfl, q1⟩
        have hq1 := hq.trans q1
        have hcw : ∀ a, w1.cell? a = w.cell? a := fun a => by simp [World.cell?, hq1.heap]
        obtain ⟨bx, ox, cx, hcx, _, _, hvx⟩ := hcell (a : Nat) (by omega) (by omega)
        have v2 := hvx (a : Nat) (by omega) (by omega)
        rw [← hcw] at hcx v2
        rw [Int.toNat_natCast] at hcx v2
        clear hcw hcell hvx
        cases hr : (mul T (a : Int) (a : Int) == (a : Int))
        · have hne : (mul T (a : Int) (a : Int) != (a : Int)) = true := by rw [bne, hr]; rfl
          go_wp2
          go_ret
          exact ⟨ret_bool (by rw [HE.out, allRR_at hlt (allR_false hlt (by unfold rOwn; exact hr))]), hq1⟩
        · have hne : (mul T (a : Int) (a : Int) != (a : Int)) = false := by rw [bne, hr]; rfl
          go_wp2
          go_roundg (T.length - (a + 1))
          case measure => go_light; have := hgk.out; omega
          case rel => go_light; exact ⟨a + 1, by omega, rfl, by go_num, hq1, fun j hj => by
            by_cases e : j = a
            · subst e; exact allR_iff.2 fun b _ => by unfold rOwn; exact hr
            · exact hH j (by omega)⟩
      · obtain rfl : T.length = a := by omega
        go_wp2_with (go_at_call 55; refine (sGroupedOk_any _ _ _ _ _ _ (h.quiet hq) hS).mono ?_; rw [hg]; rintro e w1 ⟨rfl, q1⟩)
        go_ret
        exact ⟨ret_bool (by rw [HE.out, allRR_of hH.out]), hq.trans q1⟩

end Go.Proofs.Ytnchipcpeeofaaa

namespace Go.Proofs.Ytnchipcpeeofaaa
open Go.RowKit
set_option linter.unusedVariables false
set_option linter.unusedSimpArgs false

theorem row_cell {w : World} {lo hi : Nat} {F : Option Addr} {f : List Int} (h : Row w lo hi F f) (h0 : 0 < f.length) : ∃ b o, F = some ⟨b, o, none⟩ ∧ b < hi ∧ ∀ j, j < f.length → w.cell? ⟨b, o + j, none⟩ = some (.int .i64 (el f j)) := by
  obtain ⟨b, o, rfl, _, hb, _⟩ := h 0 h0
  refine ⟨b, o, rfl, hb, fun j hj => ?_⟩
  obtain ⟨b', o', e, _, _, hc⟩ := h j hj
  injection e with e
  injection e with e1 e2
  subst e1 e2
  exact hc

set_option maxRecDepth 20000 in
set_option maxHeartbeats 4000000 in
theorem sMapOk_any (A : Option Addr) (c lo hi : Nat) (T : List (List Int)) (B : Option Addr) (c2 lo2 hi2 : Nat) (U : List (List Int)) (F : Option Addr) (c3 lo3 hi3 : Nat) (f : List Int) (w : World) (h : Mat w lo hi A T) (hS : Small T) (h2 : Mat w lo2 hi2 B U) (hS2 : Small U) (h3 : Row w lo3 hi3 F f) (hn : f.length ≤ 1048576) :
    Calls Try.prog 15 #[.slice A T.length c, .slice B U.length c2, .slice F f.length c3] w fun e w' => e = .returned (.bool (mapB T U f)) ∧ w = w' := by
  have hlT := hS.len
  have hlU := hS2.len
  go_enter Try.func15, Try.ntmps15
  go_wp2
  go_loopg [7] f.length (fun g i wr => ∃ k : Nat, k ≤ f.length ∧ Hid (g = f.length - k) ∧ i = .int .i64 k ∧ w = wr ∧ Hid (∀ j, j < k → 0 ≤ el f j ∧ el f j < U.length))
  case atStart => exact ⟨0, Nat.zero_le _, rfl, rfl, rfl, fun j hj => absurd hj (Nat.not_lt_zero _)⟩
  case round =>
    obtain ⟨k, hk, hgk, rfl, rfl, hH⟩ := hrel
    by_cases hlt : k < f.length
    · obtain ⟨bo, oo, rfl, _, _, hc⟩ := h3 k hlt
      cases hin : (decide (0 ≤ el f k) && decide (el f k ≤ (U.length : Int) - 1))
      · have HF := hide (show mapB T U f = false from by
          unfold mapB
          rw [okRow_false hlt (by
            rw [Bool.and_eq_false_iff, decide_eq_false_iff_not, decide_eq_false_iff_not] at hin
            omega)]; rfl)
        go_wp2_with fail
        refine (l1In_any _ _ _ _).mono ?_
        rw [hin]
        rintro e w_ ⟨rfl, rfl⟩
        go_wp2
        go_ret
        exact ⟨ret_bool HF.out.symm, rfl⟩
      · have HN := hide (show 0 ≤ el f k ∧ el f k < U.length from by
          rw [Bool.and_eq_true, decide_eq_true_iff, decide_eq_true_iff] at hin
          omega)
        go_wp2_with fail
        refine (l1In_any _ _ _ _).mono ?_
        rw [hin]
        rintro e w_ ⟨rfl, rfl⟩
        go_wp2
        go_roundg (f.length - (k + 1))
        case measure => go_light; have := hgk.out; omega
        case rel => go_light; exact ⟨k + 1, hlt, rfl, by go_num, rfl, fun j hj => by
          by_cases e : j = k
          · subst e; exact HN.out
          · exact hH.out j (by omega)⟩
    · obtain rfl : f.length = k := by omega
      have HR := hide (show mapB T U f = (okT T && (okT U && decide (f.length = T.length))) from by
        unfold mapB
        rw [okRow_iff.2 hH.out, Bool.true_and])
      clear hH
      cases hkT : okT T
      · rw [hkT] at HR
        go_wp2_with fail
        refine (sTableOk_any _ _ _ _ _ _ h hS).mono ?_
        rw [hkT]
        rintro e w_ ⟨rfl, rfl⟩
        go_wp2
        go_ret
        exact ⟨ret_bool HR.out.symm, rfl⟩
      · rw [hkT] at HR
        cases hkU : okT U
        · rw [hkU] at HR
          go_wp2_with fail
          refine (sTableOk_any _ _ _ _ _ _ h hS).mono ?_
          rw [hkT]
          rintro e w_ ⟨rfl, rfl⟩
          go_wp2_with fail
          refine (sTableOk_any _ _ _ _ _ _ h2 hS2).mono ?_
          rw [hkU]
          rintro e w_ ⟨rfl, rfl⟩
          go_wp2
          go_ret
          exact ⟨ret_bool HR.out.symm, rfl⟩
        · rw [hkU] at HR
          have hq : ((f.length : Int) == (T.length : Int)) = decide (f.length = T.length) := by
            rw [Bool.eq_iff_iff, beq_iff_eq, decide_eq_true_iff]; omega
          cases hd : decide (f.length = T.length)
          all_goals
            rw [hd] at HR hq
            go_wp2_with fail
            refine (sTableOk_any _ _ _ _ _ _ h hS).mono ?_
            rw [hkT]
            rintro e w_ ⟨rfl, rfl⟩
            go_wp2_with fail
            refine (sTableOk_any _ _ _ _ _ _ h2 hS2).mono ?_
            rw [hkU]
            rintro e w_ ⟨rfl, rfl⟩
            go_wp2
            go_ret
            exact ⟨ret_bool HR.out.symm, rfl⟩

set_option maxRecDepth 20000 in
set_option maxHeartbeats 8000000 in
theorem sKeepsOk_any (A : Option Addr) (c lo hi : Nat) (T : List (List Int)) (B : Option Addr) (c2 lo2 hi2 : Nat) (U : List (List Int)) (F : Option Addr) (c3 lo3 hi3 : Nat) (f : List Int) (w : World) (h : Mat w lo hi A T) (hS : Small T) (h2 : Mat w lo2 hi2 B U) (hS2 : Small U) (h3 : Row w lo3 hi3 F f) (hn : f.length ≤ 1048576) :
    Calls Try.prog 20 #[.slice A T.length c, .slice B U.length c2, .slice F f.length c3] w fun e w' => e = .returned (.bool (keepB T U f)) ∧ QD w w' := by
  have hlT := hS.len
  have hlU := hS2.len
  cases hm : mapB T U f
  · have HE := hide (keepB_not hm)
    go_enter Try.func20, Try.ntmps20
    go_wp2_with fail
    refine (sMapOk_any _ _ _ _ T _ _ _ _ U _ _ _ _ f w h hS h2 hS2 h3 hn).mono ?_
    rw [hm]
    rintro e w_ ⟨rfl, rfl⟩
    go_wp2
    go_ret
    exact ⟨ret_bool HE.out.symm, QD.refl _⟩
  have M := mapB_iff.1 hm
  have k9 := M.t.hi
  have u9 := M.u.hi
  have HE := hide (show keepB T U f = allRR T.length (keepAt T U f) from by unfold keepB; rw [hm, Bool.true_and])
  obtain ⟨bb, oo, rfl, _, _, hcT⟩ := h.head M.t
  obtain ⟨bu, ou, rfl, _, _, hcU⟩ := h2.head M.u
  obtain ⟨bf, of_, rfl, _, hcF⟩ := row_cell h3 (by rw [M.len]; exact M.t.lo)
  have HM := hide M
  have HT := hide hcT
  have HU := hide hcU
  have HF := hide hcF
  go_enter Try.func20, Try.ntmps20
  go_wp2_with fail
  refine (sMapOk_any _ _ _ _ T _ _ _ _ U _ _ _ _ f w h hS h2 hS2 h3 hn).mono ?_
  rw [hm]
  rintro e w_ ⟨rfl, rfl⟩
  clear hm M h h2 h3 hcT hcU hcF
  go_wp2
  go_loopg [7] T.length (fun g i wr => ∃ a : Nat, a ≤ T.length ∧ Hid (g = T.length - a) ∧ i = .int .i64 a ∧ QD w wr ∧ Hid (∀ x, x < a → allR T.length (keepAt T U f) x = true))
  case atStart => exact ⟨0, Nat.zero_le _, rfl, rfl, QD.refl _, fun j hj => absurd hj (Nat.not_lt_zero _)⟩
  case round =>
    obtain ⟨a, ha, hgk, rfl, hQ, hH⟩ := hrel
    by_cases hat : a < T.length
    · go_wp2
      go_loopg [8] T.length (fun g i wr => ∃ b : Nat, b ≤ T.length ∧ Hid (g = T.length - b) ∧ i = .int .i64 b ∧ QD w wr ∧ Hid (∀ y, y < b → keepAt T U f a y = true))
      case atStart => exact ⟨0, Nat.zero_le _, rfl, rfl, hQ, fun j hj => absurd hj (Nat.not_lt_zero _)⟩
      case round =>
        clear hQ
        obtain ⟨b, hb, hgk2, rfl, hQ, hH2⟩ := hrel
        by_cases hbt : b < T.length
        · obtain ⟨p, hp, p1⟩ := mul_nat HM.out.t hat hbt
          obtain ⟨x, hx, x1⟩ := HM.out.nat hat
          obtain ⟨y, hy, y1⟩ := HM.out.nat hbt
          have HK := hide (show keepAt T U f a b = (el f p == mul U (x : Int) (y : Int)) from by unfold keepAt; rw [hp, hx, hy, Int.toNat_natCast])
          have hcw : ∀ q, wr.cell? q = w.cell? q := fun q => by simp [World.cell?, hQ.heap]
          obtain ⟨bx, ox, cx, hcx, _, _, hvx⟩ := HT.out (a : Nat) (by omega) (by omega)
          have v1 := hvx (b : Nat) (by omega) (by omega)
          obtain ⟨by_, oy, cy, hcy, _, _, hvy⟩ := HU.out (x : Nat) (by omega) (by omega)
          have v2 := hvy (y : Nat) (by omega) (by omega)
          have f1 := HF.out a (by have := HM.out.len; omega)
          have f2 := HF.out b (by have := HM.out.len; omega)
          have f3 := HF.out p (by have := HM.out.len; omega)
          rw [hp] at v1
          rw [hx] at f1
          rw [hy] at f2
          rw [Int.toNat_natCast] at hcx v1 hcy v2
          rw [← hcw] at hcx v1 hcy v2 f1 f2 f3
          have hlf : f.length = T.length := HM.out.len
          obtain ⟨r, hr⟩ : ∃ r, r = el f p := ⟨_, rfl⟩
          obtain ⟨z, hz⟩ : ∃ z, z = mul U (x : Int) (y : Int) := ⟨_, rfl⟩
          rw [← hr] at f3 HK
          rw [← hz] at v2 HK
          have q0 : (0 : Int) ≤ (p : Int) := by omega
          have q1 : (p : Int) < (f.length : Int) := by omega
          have x0 : (x : Int) < (U.length : Int) := by omega
          have y0 : (y : Int) < (U.length : Int) := by omega
          have a0 : (a : Int) < (f.length : Int) := by omega
          have b0 : (b : Int) < (f.length : Int) := by omega
          clear hcw hvx hvy hr hz hp hx hy hlf
          go_wp2_with fail
          go_quiet (fail)
          cases he : (r == z)
          · have hne : (r != z) = true := by rw [bne, he]; rfl
            rw [he] at HK
            have HX := hide (allRR_false hat hbt HK.out)
            clear HK he
            go_wp2
            go_ret
            exact ⟨ret_bool (by rw [HE.out, HX.out]), hQ.drewN _⟩
          · have hne : (r != z) = false := by rw [bne, he]; rfl
            rw [he] at HK
            clear he
            go_wp2
            go_roundg (T.length - (b + 1))
            case measure => go_light; have := hgk2.out; omega
            case rel => go_light; exact ⟨b + 1, by omega, rfl, by go_num, hQ.drewN _, fun j hj => by
              by_cases e : j = b
              · subst e; exact HK.out
              · exact hH2.out j (by omega)⟩
        · obtain rfl : T.length = b := by omega
          have HX := hide (allR_iff.2 hH2.out)
          go_wp2
          go_roundg (T.length - (a + 1))
          case measure => go_light; have := hgk.out; omega
          case rel => go_light; exact ⟨a + 1, by omega, rfl, by go_num, hQ, fun j hj => by
            by_cases e : j = a
            · subst e; exact HX.out
            · exact hH.out j (by omega)⟩
    · obtain rfl : T.length = a := by omega
      have HX := hide (allRR_of hH.out)
      go_wp2
      go_ret
      exact ⟨ret_bool (by rw [HE.out, HX.out]), hQ⟩

set_option maxRecDepth 20000 in
set_option maxHeartbeats 4000000 in
theorem sReachedBy_any (A : Option Addr) (c lo hi : Nat) (T : List (List Int)) (B : Option Addr) (c2 lo2 hi2 : Nat) (U : List (List Int)) (F : Option Addr) (c3 lo3 hi3 : Nat) (f : List Int) (w : World) (h : Mat w lo hi A T) (hS : Small T) (h2 : Mat w lo2 hi2 B U) (hS2 : Small U) (h3 : Row w lo3 hi3 F f) (hn : f.length ≤ 1048576) :
    Calls Try.prog 26 #[.slice A T.length c, .slice B U.length c2, .slice F f.length c3] w fun e w' => e = .returned (.int .i64 (reachS T U f)) ∧ QD w w' := by
  have hlT := hS.len
  have hlU := hS2.len
  cases hm : mapB T U f
  · have HE := hide (reachS_not hm)
    go_enter Try.func26, Try.ntmps26
    go_wp2_with fail
    refine (sMapOk_any _ _ _ _ T _ _ _ _ U _ _ _ _ f w h hS h2 hS2 h3 hn).mono ?_
    rw [hm]
    rintro e w_ ⟨rfl, rfl⟩
    go_wp2
    go_ret
    exact ⟨ret_int HE.out.symm, QD.refl _⟩
  have M := mapB_iff.1 hm
  have u9 := M.u.hi
  have HE := hide (reachS_ok hm)
  obtain ⟨bf, of_, rfl, _, hcF⟩ := row_cell h3 (by rw [M.len]; exact M.t.lo)
  have HM := hide M
  have HF := hide hcF
  go_enter Try.func26, Try.ntmps26
  go_wp2_with fail
  refine (sMapOk_any _ _ _ _ T _ _ _ _ U _ _ _ _ f w h hS h2 hS2 h3 hn).mono ?_
  rw [hm]
  rintro e w_ ⟨rfl, rfl⟩
  clear hm M h h2 h3 hcF
  go_wp2
  go_loopg [8, 7] f.length (fun g i s wr => ∃ k : Nat, k ≤ f.length ∧ Hid (g = f.length - k) ∧ i = .int .i64 k ∧ s = .int .i64 (reachB f k : Nat) ∧ QD w wr)
  case atStart => exact ⟨0, Nat.zero_le _, rfl, rfl, rfl, QD.refl _⟩
  case round =>
    obtain ⟨k, hk, hgk, rfl, rfl, hQ⟩ := hrel
    by_cases hlt : k < f.length
    · have hl := HM.out.len
      obtain ⟨x, hx, x1⟩ := HM.out.nat (a := k) (by omega)
      have hcw : ∀ q, wr.cell? q = w.cell? q := fun q => by simp [World.cell?, hQ.heap]
      have f1 := HF.out k hlt
      rw [hx, ← hcw] at f1
      have x9 : x ≤ 9 := by omega
      obtain ⟨g1, g2⟩ := pow_int x9
      have hm1 : reachB f k < 1024 := by
        have := reachB_lt HM.out k (by omega)
        have := (pow_le9 u9).2
        omega
      have HX := hide (show reachB f (k + 1) = reachB f k ||| 2 ^ x from by rw [reachB, hx, Int.toNat_natCast])
      have HOR := hide (or_pow hm1 x9)
      clear hcw hx
      go_wp2
      go_roundg (f.length - (k + 1))
      case measure => go_light; have := hgk.out; omega
      case rel => go_light; exact ⟨k + 1, by omega, rfl, by go_num, by rw [HX.out, HOR.out], by first | exact hQ | exact hQ.drew | exact hQ.drewN _⟩
    · obtain rfl : f.length = k := by omega
      go_wp2
      go_ret
      exact ⟨ret_int HE.out.symm, hQ⟩
end Go.Proofs.Ytnchipcpeeofaaa

namespace Go.Proofs.Ytnchipcpeeofaaa
open Go.RowKit
set_option linter.unusedVariables false


/-- Heights in a row of the call's own. -/
def RowH (w : World) (g n : Nat) (H : Nat → Nat) : Prop := w.rowIs g 3 n (fun i => .int .i64 (H i : Nat))
theorem RowH.put {w : World} {g n a v : Nat} {H : Nat → Nat} (h : RowH w g n H) : RowH (w.setCell ⟨g, a, none⟩ (.int .i64 (v : Nat))) g n (putN H a v) := (World.rowIs.set h a _).congr fun i _ => by
  unfold putN
  by_cases e : i = a
  · rw [if_pos e, if_pos e]
  · rw [if_neg e, if_neg e]
theorem RowH.cell {w : World} {g n a : Nat} {H : Nat → Nat} (h : RowH w g n H) (ha : a < n) : w.cell? ⟨g, a, none⟩ = some (.int .i64 (H a : Nat)) := World.rowIs.cell h ha
theorem RowH.frz {w : World} {g n : Nat} {H : Nat → Nat} (h : RowH w g n H) (a : Nat) : w.frozen? ⟨g, a, none⟩ = false := World.rowIs.frozen h a
end Go.Proofs.Ytnchipcpeeofaaa
