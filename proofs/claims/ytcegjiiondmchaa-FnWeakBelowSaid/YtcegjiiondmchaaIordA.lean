
/- Orders as arrays of sets: the program's. -/
import Derived.Test.YtcegjiiondmchaaHtP
import Derived.Test.YtcegjiiondmchaaIband
import Derived.Test.YtcegjiiondmchaaParP
import Derived.Deep.RegionHeld3
import Derived.BigQuiet
namespace Go.Proofs.Ytcegjiiondmchaa
open Go.RowKit
set_option linter.unusedVariables false


/-- The cells of an array of nine sets. -/
def OrdC (w : World) (g : Nat) (U : Nat → Nat) : Prop := w.rowIs g 50 9 (fun i => .int .i64 ((U i : Nat) : Int))
theorem OrdC.cell {w : World} {g : Nat} {U : Nat → Nat} (h : OrdC w g U) {i : Nat} (hi : i < 9) : w.cell? ⟨g, i, none⟩ = some (.int .i64 ((U i : Nat) : Int)) := World.rowIs.cell h hi
theorem OrdC.frozen {w : World} {g : Nat} {U : Nat → Nat} (h : OrdC w g U) (i : Nat) : w.frozen? ⟨g, i, none⟩ = false := World.rowIs.frozen h i
theorem OrdC.lt {w : World} {g : Nat} {U : Nat → Nat} (h : OrdC w g U) : g < w.heap.size := World.rowIs.lt h
theorem OrdC.below {w w' : World} {g B : Nat} {U : Nat → Nat} (h : OrdC w g U) (hb : Below B w w') (hB : g < B) : OrdC w' g U := World.rowIs.of_block h (hb.block g (by omega))
theorem OrdC.call {w w' : World} {g : Nat} {U : Nat → Nat} (h : OrdC w g U) (hb : Below w.heap.size w w') : OrdC w' g U := h.below hb h.lt
theorem OrdC.congr {w : World} {g : Nat} {U V : Nat → Nat} (h : OrdC w g U) (e : ∀ i, i < 9 → U i = V i) : OrdC w g V := World.rowIs.congr h fun i hi => by rw [e i hi]
theorem OrdC.put {w : World} {g : Nat} {U : Nat → Nat} (h : OrdC w g U) (a v : Nat) : OrdC (w.setCell ⟨g, a, none⟩ (.int .i64 ((v : Nat) : Int))) g (upd U a v) := (World.rowIs.set h a _).congr fun i _ => by
  unfold upd
  by_cases e : i = a
  · rw [if_pos e, if_pos e]
  · rw [if_neg e, if_neg e]
theorem ord_new (w : World) (U : Nat → Nat) : OrdC (w.alloc (.cells #[.int .i64 ((U 0 : Nat) : Int), .int .i64 ((U 1 : Nat) : Int), .int .i64 ((U 2 : Nat) : Int), .int .i64 ((U 3 : Nat) : Int), .int .i64 ((U 4 : Nat) : Int), .int .i64 ((U 5 : Nat) : Int), .int .i64 ((U 6 : Nat) : Int), .int .i64 ((U 7 : Nat) : Int), .int .i64 ((U 8 : Nat) : Int)] 50)) w.heap.size U :=
  World.rowIs_alloc w _ 50 _ fun i hi => by
    match i, hi with
    | 0, _ | 1, _ | 2, _ | 3, _ | 4, _ | 5, _ | 6, _ | 7, _ | 8, _ => rfl
def nineZ : Array Value := #[.int .i64 0, .int .i64 0, .int .i64 0, .int .i64 0, .int .i64 0, .int .i64 0, .int .i64 0, .int .i64 0, .int .i64 0]
theorem nineZ_at (i : Nat) (hi : i < nineZ.size) : nineZ[i]? = some (.int .i64 ((0 : Nat) : Int)) := by
  have : nineZ.size = 9 := rfl
  match i, hi with
  | 0, _ | 1, _ | 2, _ | 3, _ | 4, _ | 5, _ | 6, _ | 7, _ | 8, _ => rfl
theorem ord_zero (w : World) : OrdC (w.alloc (.cells nineZ 50)) w.heap.size (fun _ => 0) := World.rowIs_alloc w nineZ 50 _ nineZ_at

/-- What is under each thing. -/
def ordU (T : List (List Int)) (i : Nat) : Nat := if i < T.length then undB T i else 0
/-- What is under each thing, under way: the thing a is asked with the things below b. -/
def ordP (T : List (List Int)) (a b i : Nat) : Nat := if i < a then undB T i else if i = a then msk (fun x => blw T x a) b else 0
theorem ordP_start (T : List (List Int)) (i : Nat) : ordP T 0 0 i = 0 := by
  unfold ordP
  rw [if_neg (Nat.not_lt_zero _)]
  split <;> rfl
theorem ordP_round (T : List (List Int)) (a i : Nat) : ordP T a T.length i = ordP T (a + 1) 0 i := by
  unfold ordP
  by_cases h1 : i < a
  · rw [if_pos h1, if_pos (by omega)]
  · rw [if_neg h1]
    by_cases h2 : i = a
    · subst h2
      rw [if_pos rfl, if_pos (by omega)]
      rfl
    · rw [if_neg h2, if_neg (by omega)]
      split <;> rfl
theorem ordP_done (T : List (List Int)) (i : Nat) : ordP T T.length 0 i = ordU T i := by
  unfold ordP ordU
  by_cases h1 : i < T.length
  · rw [if_pos h1, if_pos h1]
  · rw [if_neg h1, if_neg h1]
    split <;> rfl
theorem ordP_at (T : List (List Int)) (a b : Nat) : ordP T a b a = msk (fun x => blw T x a) b := by
  unfold ordP
  rw [if_neg (Nat.lt_irrefl _), if_pos rfl]
theorem ordP_skip {T : List (List Int)} {a b : Nat} (h : blw T b a = false) (i : Nat) : ordP T a b i = ordP T a (b + 1) i := by
  unfold ordP
  rw [msk_or, h]
  simp
theorem ordP_put {T : List (List Int)} {a b : Nat} (i : Nat) : upd (ordP T a b) a (msk (fun x => blw T x a) (b + 1)) i = ordP T a (b + 1) i := by
  unfold upd ordP
  by_cases h : i = a
  · subst h
    rw [if_pos rfl, if_neg (Nat.lt_irrefl _), if_pos rfl]
  · rw [if_neg h, if_neg h, if_neg h]

theorem results_of_cell {fn : Func} {p : Tmp} {ty : TypeId} (h : fn.results = #[.cell p ty]) (tmps : Array Value) (P : Program) (w : World) :
    (results fn tmps).run P w = ((asAddr (tmps.getD p undef)).run P w).andThen fun a w₁ => (loadVar ty a).run P w₁ := by
  simp only [results, h]
  simp [Sem.run_bind, Result.andThen]
set_option maxHeartbeats 1000000 in
theorem res_ord (tmps : Array Value) (g : Nat) (f : Nat → Value) (W : World) (hR : W.rowIs g 50 9 f) (h0 : tmps.getD 2 undef = .pointer (some ⟨g, 0, none⟩)) :
    (results Try.f51 tmps).run Try.prog W = .ok (.agg #[f 0, f 1, f 2, f 3, f 4, f 5, f 6, f 7, f 8]) W := by
  have c0 := hR.cell (i := 0) (by omega)
  have c1 := hR.cell (i := 1) (by omega)
  have c2 := hR.cell (i := 2) (by omega)
  have c3 := hR.cell (i := 3) (by omega)
  have c4 := hR.cell (i := 4) (by omega)
  have c5 := hR.cell (i := 5) (by omega)
  have c6 := hR.cell (i := 6) (by omega)
  have c7 := hR.cell (i := 7) (by omega)
  have c8 := hR.cell (i := 8) (by omega)
  rw [results_of_cell rfl]
  simp [asAddr, Result.andThen, h0, go_sem, c0, c1, c2, c3, c4, c5, c6, c7, c8]

set_option maxRecDepth 20000 in
set_option maxHeartbeats 4000000 in
theorem order_any (A : Option Addr) (c lo hi : Nat) (T : List (List Int)) (w : World) (h : Mat w lo hi A T) (hh : hi ≤ w.heap.size) (k : IsT T) :
    Calls Try.prog 51 #[.agg #[.slice A T.length c]] w fun e w' => e = .returned (.agg #[.int .i64 ((ordU T 0 : Nat) : Int), .int .i64 ((ordU T 1 : Nat) : Int), .int .i64 ((ordU T 2 : Nat) : Int), .int .i64 ((ordU T 3 : Nat) : Int), .int .i64 ((ordU T 4 : Nat) : Int), .int .i64 ((ordU T 5 : Nat) : Int), .int .i64 ((ordU T 6 : Nat) : Int), .int .i64 ((ordU T 7 : Nat) : Int), .int .i64 ((ordU T 8 : Nat) : Int)]) ∧ Below w.heap.size w w' := by
  have k9 := k.hi
  go_enter Try.func51, Try.ntmps51
  go_wp2
  go_loopg [9] T.length (fun g i wr => ∃ a : Nat, a ≤ T.length ∧ Hid (g = T.length - a) ∧ i = .int .i64 a ∧ OrdC wr (w.heap.size + 2) (ordP T a 0) ∧ OrdC wr (w.heap.size + 1) (fun _ => 0) ∧ wr.rowIs w.heap.size 52 1 (fun _ => .slice A T.length c) ∧ Below w.heap.size w wr)
  case atStart =>
    refine ⟨0, Nat.zero_le _, rfl, rfl, ?_, ?_, ?_, ?_⟩
    · have := ord_zero ((w.alloc (.cells #[.slice A T.length c] 52)).alloc (.cells nineZ 50))
      rw [show ((w.alloc (.cells #[.slice A T.length c] 52)).alloc (.cells nineZ 50)).heap.size = w.heap.size + 2 from by simp] at this
      exact this.congr fun i _ => (ordP_start T i).symm
    · have := ord_zero (w.alloc (.cells #[.slice A T.length c] 52))
      rw [show (w.alloc (.cells #[.slice A T.length c] 52)).heap.size = w.heap.size + 1 from by simp] at this
      exact World.rowIs.alloc this _
    · exact World.rowIs.alloc (World.rowIs.alloc (World.rowIs_alloc w #[.slice A T.length c] 52 (fun _ => .slice A T.length c) (fun i hi => by
        match i, hi with
        | 0, _ => rfl)) _) _
    · exact (((Below.refl _ w).alloc (Nat.le_refl _) _).alloc (by simp) _).alloc (by simp; omega) _
  case round =>
    obtain ⟨a, ha, hgk, rfl, hF, hZ, hT, hB⟩ := hrel
    by_cases hlt : a < T.length
    · have hct := World.rowIs.cell hT (i := 0) (by omega)
      go_wp2
      clear hct
      go_loopg [15] T.length (fun g i wi => ∃ b : Nat, b ≤ T.length ∧ Hid (g = T.length - b) ∧ i = .int .i64 b ∧ OrdC wi (w.heap.size + 2) (ordP T a b) ∧ OrdC wi (w.heap.size + 1) (fun _ => 0) ∧ wi.rowIs w.heap.size 52 1 (fun _ => .slice A T.length c) ∧ Below w.heap.size w wi)
      case atStart => exact ⟨0, Nat.zero_le _, rfl, rfl, hF, hZ, hT, hB⟩
      case round =>
        clear hF hZ hT hB
        obtain ⟨b, hb, hgk2, rfl, hF, hZ, hT, hB⟩ := hrel
        by_cases hbt : b < T.length
        · have hct := World.rowIs.cell hT (i := 0) (by omega)
          have hM := h.below hB hh
          have hS := hB.size
          cases hr : rZero T b a
          · have HK := hide (show blw T b a = false from hr)
            go_wp2_with fail
            refine (absorbs_any A c lo hi T b a _ hM (Nat.le_trans hh hS) k hbt hlt).mono ?_
            rw [hr]
            rintro e w2 ⟨rfl, b2⟩
            clear hct hM hr
            go_wp2
            go_roundg (T.length - (b + 1))
            case measure => go_light; have := hgk2.out; omega
            case rel => go_light; exact ⟨b + 1, by omega, rfl, by go_num, (hF.call b2).congr fun i _ => ordP_skip HK.out i, hZ.call b2, World.rowIs.of_block hT (b2.block _ (World.rowIs.lt hT)), hB.trans (b2.mono hS)⟩
          · have HK := hide (show blw T b a = true from hr)
            go_wp2_with fail
            refine (absorbs_any A c lo hi T b a _ hM (Nat.le_trans hh hS) k hbt hlt).mono ?_
            rw [hr]
            rintro e w2 ⟨rfl, b2⟩
            clear hct hM hr
            have hF2 := hF.call b2
            have hZ2 := hZ.call b2
            have hT2 := World.rowIs.of_block hT (b2.block _ (World.rowIs.lt hT))
            have hB2 := hB.trans (b2.mono hS)
            clear hF hZ hT hB b2 hS
            have hca : w2.cell? ⟨w.heap.size + 2, a, none⟩ = some (.int .i64 ((msk (fun x => blw T x a) b : Nat) : Int)) := by have := hF2.cell (i := a) (by omega); rw [ordP_at] at this; exact this
            have hfa := hF2.frozen a
            obtain ⟨p0, p1⟩ := pow_int (show b ≤ 9 by omega)
            have hml : msk (fun x => blw T x a) b < 1024 := by
              have := msk_lt (fun x => blw T x a) b
              have := pow_le9 (show b ≤ 9 by omega)
              omega
            have hor : bits .or .i64 ((msk (fun x => blw T x a) b : Nat) : Int) ((2 : Int) ^ b) = ((msk (fun x => blw T x a) (b + 1) : Nat) : Int) := by
              rw [or_pow hml (by omega), msk_or, HK.out]; rfl
            have Y1 := hide (show OrdC (w2.setCell ⟨w.heap.size + 2, a, none⟩ (.int .i64 ((msk (fun x => blw T x a) (b + 1) : Nat) : Int))) (w.heap.size + 2) (ordP T a (b + 1)) from (hF2.put a _).congr fun i _ => ordP_put i)
            have Y2 := hide (World.rowIs.setOther hZ2 (a := ⟨w.heap.size + 2, a, none⟩) (by show w.heap.size + 1 ≠ w.heap.size + 2; omega) (.int .i64 ((msk (fun x => blw T x a) (b + 1) : Nat) : Int)))
            have Y3 := hide (World.rowIs.setOther hT2 (a := ⟨w.heap.size + 2, a, none⟩) (by show w.heap.size ≠ w.heap.size + 2; omega) (.int .i64 ((msk (fun x => blw T x a) (b + 1) : Nat) : Int)))
            have Y4 := hide (hB2.setCell (p := ⟨w.heap.size + 2, a, none⟩) (by show w.heap.size ≤ w.heap.size + 2; omega) (.int .i64 ((msk (fun x => blw T x a) (b + 1) : Nat) : Int)))
            have Y5 := hide hml
            clear hF2 hZ2 hT2 hB2 hml
            generalize msk (fun x => blw T x a) b = m0 at *
            generalize msk (fun x => blw T x a) (b + 1) = m1 at *
            go_wp2
            go_region
            go_wp2
            go_roundg (T.length - (b + 1))
            case measure => go_light; have := hgk2.out; omega
            case rel => go_light; exact ⟨b + 1, by omega, rfl, by go_num, Y1.out, Y2.out, Y3.out, Y4.out.drew⟩
        · obtain rfl : T.length = b := by omega
          go_wp2
          go_roundg (T.length - (a + 1))
          case measure => go_light; have := hgk.out; omega
          case rel => go_light; exact ⟨a + 1, by omega, rfl, by go_num, hF.congr fun i _ => ordP_round T a i, hZ, hT, hB⟩
    · obtain rfl : T.length = a := by omega
      replace hF : OrdC wr (w.heap.size + 2) (ordU T) := hF.congr fun i _ => ordP_done T i
      have hc0 := World.rowIs.cell hF (i := 0) (by omega)
      have hz0 := World.rowIs.cell hZ (i := 0) (by omega)
      have hf0 : wr.frozen? ⟨w.heap.size + 1, 0, none⟩ = false := World.rowIs.frozen hZ 0
      have hc1 := World.rowIs.cell hF (i := 1) (by omega)
      have hz1 := World.rowIs.cell hZ (i := 1) (by omega)
      have hf1 : wr.frozen? ⟨w.heap.size + 1, 1, none⟩ = false := World.rowIs.frozen hZ 1
      have hc2 := World.rowIs.cell hF (i := 2) (by omega)
      have hz2 := World.rowIs.cell hZ (i := 2) (by omega)
      have hf2 : wr.frozen? ⟨w.heap.size + 1, 2, none⟩ = false := World.rowIs.frozen hZ 2
      have hc3 := World.rowIs.cell hF (i := 3) (by omega)
      have hz3 := World.rowIs.cell hZ (i := 3) (by omega)
      have hf3 : wr.frozen? ⟨w.heap.size + 1, 3, none⟩ = false := World.rowIs.frozen hZ 3
      have hc4 := World.rowIs.cell hF (i := 4) (by omega)
      have hz4 := World.rowIs.cell hZ (i := 4) (by omega)
      have hf4 : wr.frozen? ⟨w.heap.size + 1, 4, none⟩ = false := World.rowIs.frozen hZ 4
      have hc5 := World.rowIs.cell hF (i := 5) (by omega)
      have hz5 := World.rowIs.cell hZ (i := 5) (by omega)
      have hf5 : wr.frozen? ⟨w.heap.size + 1, 5, none⟩ = false := World.rowIs.frozen hZ 5
      have hc6 := World.rowIs.cell hF (i := 6) (by omega)
      have hz6 := World.rowIs.cell hZ (i := 6) (by omega)
      have hf6 : wr.frozen? ⟨w.heap.size + 1, 6, none⟩ = false := World.rowIs.frozen hZ 6
      have hc7 := World.rowIs.cell hF (i := 7) (by omega)
      have hz7 := World.rowIs.cell hZ (i := 7) (by omega)
      have hf7 : wr.frozen? ⟨w.heap.size + 1, 7, none⟩ = false := World.rowIs.frozen hZ 7
      have hc8 := World.rowIs.cell hF (i := 8) (by omega)
      have hz8 := World.rowIs.cell hZ (i := 8) (by omega)
      have hf8 : wr.frozen? ⟨w.heap.size + 1, 8, none⟩ = false := World.rowIs.frozen hZ 8
      have hR := ((((((((World.rowIs.set hZ 0 (.int .i64 ((ordU T 0 : Nat) : Int))).set 1 (.int .i64 ((ordU T 1 : Nat) : Int))).set 2 (.int .i64 ((ordU T 2 : Nat) : Int))).set 3 (.int .i64 ((ordU T 3 : Nat) : Int))).set 4 (.int .i64 ((ordU T 4 : Nat) : Int))).set 5 (.int .i64 ((ordU T 5 : Nat) : Int))).set 6 (.int .i64 ((ordU T 6 : Nat) : Int))).set 7 (.int .i64 ((ordU T 7 : Nat) : Int))).set 8 (.int .i64 ((ordU T 8 : Nat) : Int))
      have hB9 := ((((((((hB.setCell (p := ⟨w.heap.size + 1, 0, none⟩) (by show w.heap.size ≤ w.heap.size + 1; omega) (.int .i64 ((ordU T 0 : Nat) : Int))).setCell (p := ⟨w.heap.size + 1, 1, none⟩) (by show w.heap.size ≤ w.heap.size + 1; omega) (.int .i64 ((ordU T 1 : Nat) : Int))).setCell (p := ⟨w.heap.size + 1, 2, none⟩) (by show w.heap.size ≤ w.heap.size + 1; omega) (.int .i64 ((ordU T 2 : Nat) : Int))).setCell (p := ⟨w.heap.size + 1, 3, none⟩) (by show w.heap.size ≤ w.heap.size + 1; omega) (.int .i64 ((ordU T 3 : Nat) : Int))).setCell (p := ⟨w.heap.size + 1, 4, none⟩) (by show w.heap.size ≤ w.heap.size + 1; omega) (.int .i64 ((ordU T 4 : Nat) : Int))).setCell (p := ⟨w.heap.size + 1, 5, none⟩) (by show w.heap.size ≤ w.heap.size + 1; omega) (.int .i64 ((ordU T 5 : Nat) : Int))).setCell (p := ⟨w.heap.size + 1, 6, none⟩) (by show w.heap.size ≤ w.heap.size + 1; omega) (.int .i64 ((ordU T 6 : Nat) : Int))).setCell (p := ⟨w.heap.size + 1, 7, none⟩) (by show w.heap.size ≤ w.heap.size + 1; omega) (.int .i64 ((ordU T 7 : Nat) : Int))).setCell (p := ⟨w.heap.size + 1, 8, none⟩) (by show w.heap.size ≤ w.heap.size + 1; omega) (.int .i64 ((ordU T 8 : Nat) : Int))
      clear hF hZ hT hB
      go_wp2
      exact bodyPost_ret (res_ord _ _ _ _ hR rfl) rfl ⟨rfl, hB9⟩

set_option maxHeartbeats 2000000 in
theorem below_any (U : Nat → Nat) (a b : Nat) (w : World) (ha : a < 9) (hb : b < 9) (hU : U b < 1024) :
    Calls Try.prog 52 #[.agg #[.int .i64 ((U 0 : Nat) : Int), .int .i64 ((U 1 : Nat) : Int), .int .i64 ((U 2 : Nat) : Int), .int .i64 ((U 3 : Nat) : Int), .int .i64 ((U 4 : Nat) : Int), .int .i64 ((U 5 : Nat) : Int), .int .i64 ((U 6 : Nat) : Int), .int .i64 ((U 7 : Nat) : Int), .int .i64 ((U 8 : Nat) : Int)], .int .i64 a, .int .i64 b] w fun e w' => e = .returned (.bool ((U b).testBit a)) ∧ Below w.heap.size w w' := by
  obtain ⟨p0, p1⟩ := pow_int (show a ≤ 9 by omega)
  have hand := and_pow hU (show a ≤ 9 by omega)
  have hO := ord_new w U
  have hB := (Below.refl w.heap.size w).alloc (Nat.le_refl _) (.cells #[.int .i64 ((U 0 : Nat) : Int), .int .i64 ((U 1 : Nat) : Int), .int .i64 ((U 2 : Nat) : Int), .int .i64 ((U 3 : Nat) : Int), .int .i64 ((U 4 : Nat) : Int), .int .i64 ((U 5 : Nat) : Int), .int .i64 ((U 6 : Nat) : Int), .int .i64 ((U 7 : Nat) : Int), .int .i64 ((U 8 : Nat) : Int)] 50)
  have hc := hO.cell hb
  go_enter Try.func52, Try.ntmps52
  go_wp2_with fail
  generalize hw0 : w.alloc (.cells #[.int .i64 ((U 0 : Nat) : Int), .int .i64 ((U 1 : Nat) : Int), .int .i64 ((U 2 : Nat) : Int), .int .i64 ((U 3 : Nat) : Int), .int .i64 ((U 4 : Nat) : Int), .int .i64 ((U 5 : Nat) : Int), .int .i64 ((U 6 : Nat) : Int), .int .i64 ((U 7 : Nat) : Int), .int .i64 ((U 8 : Nat) : Int)] 50) = w0 at *
  cases ht : (U b).testBit a
  · rw [ht] at hand
    have hand2 : bits .and .i64 ((U b : Nat) : Int) ((2 : Int) ^ a) = 0 := by simpa using hand
    clear hand hO
    go_quiet (fail)
    go_wp2
    go_ret
    exact ⟨ret_bool ht.symm, Below.drewN_ hB _⟩
  · rw [ht] at hand
    have hand2 : bits .and .i64 ((U b : Nat) : Int) ((2 : Int) ^ a) = (2 : Int) ^ a := by simpa using hand
    have hne : ((2 : Int) ^ a == 0) = false := beq_eq_false_iff_ne.2 (by omega)
    have hne2 : ((2 : Int) ^ a != 0) = true := by rw [bne, hne]; rfl
    clear hand hO
    go_quiet (fail)
    go_wp2
    go_ret
    exact ⟨ret_bool ht.symm, Below.drewN_ hB _⟩

theorem andn_pow {s p : Nat} (hs : s < 1024) (hp : p ≤ 9) : bits .andNot .i64 (s : Int) ((2 : Int) ^ p) = ((andn s (2 ^ p) : Nat) : Int) := by
  have h := pow_le9 hp
  have e : (2 : Int) ^ p = ((2 ^ p : Nat) : Int) := by simp
  rw [e, bits_andn hs (by omega)]

set_option maxHeartbeats 2000000 in
theorem properly_any (U : Nat → Nat) (a : Nat) (w : World) (ha : a < 9) (hU : U a < 1024) :
    Calls Try.prog 99 #[.agg #[.int .i64 ((U 0 : Nat) : Int), .int .i64 ((U 1 : Nat) : Int), .int .i64 ((U 2 : Nat) : Int), .int .i64 ((U 3 : Nat) : Int), .int .i64 ((U 4 : Nat) : Int), .int .i64 ((U 5 : Nat) : Int), .int .i64 ((U 6 : Nat) : Int), .int .i64 ((U 7 : Nat) : Int), .int .i64 ((U 8 : Nat) : Int)], .int .i64 a] w fun e w' => e = .returned (.int .i64 ((andn (U a) (2 ^ a) : Nat) : Int)) ∧ Below w.heap.size w w' := by
  obtain ⟨p0, p1⟩ := pow_int (show a ≤ 9 by omega)
  have hand := andn_pow hU (show a ≤ 9 by omega)
  have hO := ord_new w U
  have hB := (Below.refl w.heap.size w).alloc (Nat.le_refl _) (.cells #[.int .i64 ((U 0 : Nat) : Int), .int .i64 ((U 1 : Nat) : Int), .int .i64 ((U 2 : Nat) : Int), .int .i64 ((U 3 : Nat) : Int), .int .i64 ((U 4 : Nat) : Int), .int .i64 ((U 5 : Nat) : Int), .int .i64 ((U 6 : Nat) : Int), .int .i64 ((U 7 : Nat) : Int), .int .i64 ((U 8 : Nat) : Int)] 50)
  have hc := hO.cell ha
  go_enter Try.func99, Try.ntmps99
  go_wp2_with fail
  generalize hw0 : w.alloc (.cells #[.int .i64 ((U 0 : Nat) : Int), .int .i64 ((U 1 : Nat) : Int), .int .i64 ((U 2 : Nat) : Int), .int .i64 ((U 3 : Nat) : Int), .int .i64 ((U 4 : Nat) : Int), .int .i64 ((U 5 : Nat) : Int), .int .i64 ((U 6 : Nat) : Int), .int .i64 ((U 7 : Nat) : Int), .int .i64 ((U 8 : Nat) : Int)] 50) = w0 at *
  clear hO
  go_quiet (fail)
  go_wp2
  go_ret
  exact ⟨rfl, Below.drewN_ hB _⟩
end Go.Proofs.Ytcegjiiondmchaa
