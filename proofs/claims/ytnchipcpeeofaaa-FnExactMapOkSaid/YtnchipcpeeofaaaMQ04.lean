/-  -/
import Derived.Deep.RegionHeld3
import Derived.Deep.AppendLies
import Derived.Test.YtnchipcpeeofaaaMQ02
import Derived.Test.YtnchipcpeeofaaaMQ03
namespace Go.Proofs.Ytnchipcpeeofaaa
open Go.RowKit
set_option linter.unusedVariables false


/-- A table in memory at which x and y are things: what a product reads. -/
theorem Mat.at_ {w : World} {lo hi : Nat} {A : Option Addr} {T : List (List Int)} (h : Mat w lo hi A T) (k : IsT T) {x y : Int} (hx0 : 0 ≤ x) (hx1 : x < T.length) (hy0 : 0 ≤ y) (hy1 : y < T.length) :
    ∃ b o b2 o2 c, A = some ⟨b, o, none⟩ ∧ lo ≤ b ∧ b < hi ∧ w.cell? ⟨b, o + x.toNat, none⟩ = some (.slice (some ⟨b2, o2, none⟩) T.length c) ∧ lo ≤ b2 ∧ b2 < hi ∧ w.cell? ⟨b2, o2 + y.toNat, none⟩ = some (.int .i64 (mul T x y)) := by
  obtain ⟨b, o, A', c, rfl, h1, h2, hc, hR⟩ := h x.toNat (by omega)
  have hl := k.len x.toNat (by omega)
  obtain ⟨b2, o2, rfl, h3, h4, hc2⟩ := hR y.toNat (by omega)
  rw [hl] at hc
  exact ⟨b, o, b2, o2, c, rfl, h1, h2, hc, h3, h4, hc2⟩

set_option maxHeartbeats 400000 in
theorem product_any (A : Option Addr) (c lo hi : Nat) (T : List (List Int)) (x y : Int) (w : World) (h : Mat w lo hi A T) (hh : hi ≤ w.heap.size) (k : IsT T) (hx0 : 0 ≤ x) (hx1 : x < T.length) (hy0 : 0 ≤ y) (hy1 : y < T.length) :
    Calls Try.prog 65 #[.agg #[.slice A T.length c], .int .i64 x, .int .i64 y] w fun e w' => e = .returned (.int .i64 (mul T x y)) ∧ Below w.heap.size w w' := by
  obtain ⟨b, o, b2, o2, c', rfl, _, hb, hc, _, hb2, hc2⟩ := h.at_ k hx0 hx1 hy0 hy1
  have hb' : b < w.heap.size := by omega
  have hb2' : b2 < w.heap.size := by omega
  go_enter Try.func65, Try.ntmps65
  go_wp2
  go_ret
  exact ⟨rfl, (Below.refl _ _).alloc (Nat.le_refl _) _⟩

/-- What stays while a call that makes memory reads a table. -/
structure GS (w : World) (lo hi : Nat) (A : Option Addr) (T : List (List Int)) (w' : World) : Prop where
  mat : Mat w' lo hi A T
  hh : hi ≤ w.heap.size
  size : w.heap.size < w'.heap.size
  below : Below w.heap.size w w'
theorem GS.step {w w0 w1 : World} {lo hi : Nat} {A : Option Addr} {T : List (List Int)} (hb : Below w0.heap.size w0 w1) (h : GS w lo hi A T w0) : GS w lo hi A T w1 :=
  ⟨h.mat.below hb (by have := h.hh; have := h.size; omega), h.hh, Nat.lt_of_lt_of_le h.size hb.size, h.below.trans (hb.mono (Nat.le_of_lt h.size))⟩
theorem GS.cell {w w0 w1 : World} {lo hi : Nat} {A : Option Addr} {T : List (List Int)} (hb : Below w0.heap.size w0 w1) (h : GS w lo hi A T w0) {v : Option Value} (hc : w0.cell? ⟨w.heap.size, 0, none⟩ = v) : w1.cell? ⟨w.heap.size, 0, none⟩ = v :=
  (hb.cell (p := ⟨w.heap.size, 0, none⟩) h.size).trans hc
theorem GS.top {w w0 : World} {lo hi : Nat} {A : Option Addr} {T : List (List Int)} (h : GS w lo hi A T w0) : hi ≤ w0.heap.size := by have := h.hh; have := h.size; omega
theorem GS.drew {w w0 : World} {lo hi : Nat} {A : Option Addr} {T : List (List Int)} (h : GS w lo hi A T w0) : GS w lo hi A T w0.drew := ⟨h.mat, h.hh, h.size, h.below.drew⟩

set_option maxHeartbeats 2000000 in
theorem grouped_any (A : Option Addr) (c lo hi : Nat) (T : List (List Int)) (x y z : Int) (w : World) (h : Mat w lo hi A T) (hh : hi ≤ w.heap.size) (k : IsT T) (hx0 : 0 ≤ x) (hx1 : x < T.length) (hy0 : 0 ≤ y) (hy1 : y < T.length) (hz0 : 0 ≤ z) (hz1 : z < T.length) :
    Calls Try.prog 60 #[.agg #[.slice A T.length c], .int .i64 x, .int .i64 y, .int .i64 z] w fun e w' => e = .returned (.bool (assoc T x y z)) ∧ Below w.heap.size w w' := by
  obtain ⟨hm0, hm1⟩ := k.mul hy0 hy1 hz0 hz1
  obtain ⟨hn0, hn1⟩ := k.mul hx0 hx1 hy0 hy1
  have hG : GS w lo hi A T (w.alloc (.cells #[.slice A T.length c] 53)) := ⟨h.below ((Below.refl _ _).alloc (Nat.le_refl _) _) hh, hh, by simp, (Below.refl _ _).alloc (Nat.le_refl _) _⟩
  go_enter Try.func60, Try.ntmps60
  go_wp2_with fail
  go_region_held3 (fun w' => w'.cell? ⟨w.heap.size, 0, none⟩ = some (.slice A T.length c) ∧ GS w lo hi A T w')
    (first
      | exact ⟨by simp, hG.drew⟩
      | (go_split_ands
         exact ⟨GS.cell (by assumption) (by assumption) (by assumption), GS.step (by assumption) (by assumption)⟩))
    (first
      | (go_at_call 65
         refine (product_any _ _ lo hi T _ _ _ ?_ ?_ k ?_ ?_ ?_ ?_).mono ?_
         · go_split_ands
           exact GS.mat (by assumption)
         · go_split_ands
           exact GS.top (by assumption)
         · assumption
         · assumption
         · assumption
         · assumption
         rintro e w1 ⟨rfl, hb⟩))
  go_wp2
  go_ret
  go_split_ands
  exact ⟨rfl, GS.below (by assumption)⟩

set_option maxHeartbeats 2000000 in
theorem iGroupedOk_any (A : Option Addr) (c lo hi : Nat) (T : List (List Int)) (w : World) (h : Mat w lo hi A T) (hh : hi ≤ w.heap.size) (hS : Small T) :
    Calls Try.prog 29 #[.slice A T.length c] w fun e w' => e = .returned (.bool (grpT T)) ∧ Below w.heap.size w w' := by
  have hn := hS.len
  cases hk : okT T
  · go_enter Try.func29, Try.ntmps29
    go_wp2_with (go_at_call 51; refine (iTableOk_any _ _ _ _ _ _ h hS).mono ?_; rintro e w' ⟨rfl, rfl⟩; rw [hk])
    go_ret
    exact ⟨ret_bool (grpT_not hk).symm, Below.refl _ _⟩
  · have k := okT_iff.1 hk
    have hG : GS w lo hi A T (w.alloc (.cells #[.slice A T.length c] 53)) := ⟨h.below ((Below.refl _ _).alloc (Nat.le_refl _) _) hh, hh, by simp, (Below.refl _ _).alloc (Nat.le_refl _) _⟩
    go_enter Try.func29, Try.ntmps29
    go_wp2_with (go_at_call 51; refine (iTableOk_any _ _ _ _ _ _ h hS).mono ?_; rintro e w' ⟨rfl, rfl⟩; rw [hk])
    go_loopg [14] T.length (fun g i wr => ∃ p : Nat, p ≤ T.length ∧ g = T.length - p ∧ i = .int .i64 p ∧ wr.cell? ⟨w.heap.size, 0, none⟩ = some (.slice A T.length c) ∧ GS w lo hi A T wr ∧ Hid (∀ x, x < p → ∀ y, y < T.length → ∀ z, z < T.length → assoc T (x : Nat) (y : Nat) (z : Nat) = true))
    case atStart => exact ⟨0, Nat.zero_le _, rfl, rfl, by simp, hG, fun _ hj => absurd hj (Nat.not_lt_zero _)⟩
    case round =>
      obtain ⟨p, hp, rfl, rfl, hC1, hG1, hH1⟩ := hrel
      clear hG
      by_cases hpt : p < T.length
      · go_wp2
        go_loopg [19] T.length (fun g i wr => ∃ q : Nat, q ≤ T.length ∧ g = T.length - q ∧ i = .int .i64 q ∧ wr.cell? ⟨w.heap.size, 0, none⟩ = some (.slice A T.length c) ∧ GS w lo hi A T wr ∧ Hid (∀ y, y < q → ∀ z, z < T.length → assoc T (p : Nat) (y : Nat) (z : Nat) = true))
        case atStart => exact ⟨0, Nat.zero_le _, rfl, rfl, hC1, hG1, fun _ hj => absurd hj (Nat.not_lt_zero _)⟩
        case round =>
          clear hC1 hG1
          obtain ⟨q, hq, rfl, rfl, hC2, hG2, hH2⟩ := hrel
          by_cases hqt : q < T.length
          · go_wp2
            go_loopg [24] T.length (fun g i wr => ∃ r : Nat, r ≤ T.length ∧ g = T.length - r ∧ i = .int .i64 r ∧ wr.cell? ⟨w.heap.size, 0, none⟩ = some (.slice A T.length c) ∧ GS w lo hi A T wr ∧ Hid (∀ z, z < r → assoc T (p : Nat) (q : Nat) (z : Nat) = true))
            case atStart => exact ⟨0, Nat.zero_le _, rfl, rfl, hC2, hG2, fun _ hj => absurd hj (Nat.not_lt_zero _)⟩
            case round =>
              clear hC2 hG2
              obtain ⟨r, hr, rfl, rfl, hC3, hG3, hH3⟩ := hrel
              by_cases hrt : r < T.length
              · go_wp2_with fail
                refine (grouped_any _ _ _ _ _ _ _ _ _ hG3.mat hG3.top k (by omega) (by omega) (by omega) (by omega) (by omega) (by omega)).mono ?_
                rintro e w1 ⟨rfl, hb⟩
                cases ha : assoc T (p : Nat) (q : Nat) (r : Nat)
                · go_wp2
                  go_ret
                  exact ⟨ret_bool (grpT_at (by omega) (by omega) (by omega) (by omega) (by omega) (by omega) ha).symm, (GS.step hb hG3).below⟩
                · go_wp2
                  go_roundg (T.length - (r + 1))
                  case measure => go_light; omega
                  case rel => go_light; exact ⟨r + 1, by omega, rfl, by go_num, GS.cell hb hG3 hC3, GS.step hb hG3, fun j hj => by
                    by_cases e : j = r
                    · subst e; exact ha
                    · exact hH3 j (by omega)⟩
              · obtain rfl : r = T.length := by omega
                go_wp2
                go_roundg (T.length - (q + 1))
                case measure => go_light; omega
                case rel => go_light; exact ⟨q + 1, by omega, rfl, by go_num, hC3, hG3, fun j hj => by
                    by_cases e : j = q
                    · subst e; exact hH3
                    · exact hH2 j (by omega)⟩
          · obtain rfl : q = T.length := by omega
            go_wp2
            go_roundg (T.length - (p + 1))
            case measure => go_light; omega
            case rel => go_light; exact ⟨p + 1, by omega, rfl, by go_num, hC2, hG2, fun j hj => by
                    by_cases e : j = p
                    · subst e; exact hH2
                    · exact hH1 j (by omega)⟩
      · obtain rfl : p = T.length := by omega
        go_wp2
        go_ret
        exact ⟨ret_bool (grpT_all k hH1.out).symm, hG1.below⟩
end Go.Proofs.Ytnchipcpeeofaaa

namespace Go.Proofs.Ytnchipcpeeofaaa
open Go.RowKit
set_option linter.unusedVariables false


/-- What a table of things holds in memory. -/
theorem Mat.head {w : World} {lo hi : Nat} {A : Option Addr} {T : List (List Int)} (h : Mat w lo hi A T) (k : IsT T) :
    ∃ b o, A = some ⟨b, o, none⟩ ∧ lo ≤ b ∧ b < hi ∧ ∀ x : Int, 0 ≤ x → x < T.length → ∃ b2 o2 c, w.cell? ⟨b, o + x.toNat, none⟩ = some (.slice (some ⟨b2, o2, none⟩) T.length c) ∧ lo ≤ b2 ∧ b2 < hi ∧
      ∀ y : Int, 0 ≤ y → y < T.length → w.cell? ⟨b2, o2 + y.toNat, none⟩ = some (.int .i64 (mul T x y)) := by
  have h0 := k.lo
  obtain ⟨b, o, _, _, rfl, h1, h2, _⟩ := h 0 (by omega)
  refine ⟨b, o, rfl, h1, h2, fun x hx0 hx1 => ?_⟩
  obtain ⟨b', o', A', c, e, _, _, hc, hR⟩ := h x.toNat (by omega)
  obtain ⟨rfl, rfl⟩ : b = b' ∧ o = o' := by simpa using e
  have hl := k.len x.toNat (by omega)
  rw [hl] at hc
  obtain ⟨b2, o2, rfl, h3, h4, _⟩ := hR 0 (by omega)
  refine ⟨b2, o2, c, hc, h3, h4, fun y hy0 hy1 => ?_⟩
  obtain ⟨b3, o3, e3, _, _, hc3⟩ := hR y.toNat (by omega)
  obtain ⟨rfl, rfl⟩ : b2 = b3 ∧ o2 = o3 := by simpa using e3
  exact hc3

set_option maxHeartbeats 2000000 in
theorem sGroupedOk_any (A : Option Addr) (c lo hi : Nat) (T : List (List Int)) (w : World) (h : Mat w lo hi A T) (hS : Small T) :
    Calls Try.prog 55 #[.slice A T.length c] w fun e w' => e = .returned (.bool (grpT T)) ∧ QD w w' := by
  have hn := hS.len
  cases hk : okT T
  · go_enter Try.func55, Try.ntmps55
    go_wp2_with (go_at_call 16; refine (sTableOk_any _ _ _ _ _ _ h hS).mono ?_; rintro e w' ⟨rfl, rfl⟩; rw [hk])
    go_ret
    exact ⟨ret_bool (grpT_not hk).symm, QD.refl _⟩
  · have k := okT_iff.1 hk
    obtain ⟨b, o, rfl, _, _, hcell⟩ := h.head k
    obtain ⟨⟨h20, h21⟩, h30, h31⟩ := sq_int k.hi
    have h01 := k.lo
    have h09 := k.hi
    go_enter Try.func55, Try.ntmps55
    go_wp2_with (go_at_call 16; refine (sTableOk_any _ _ _ _ _ _ h hS).mono ?_; rintro e w' ⟨rfl, rfl⟩; rw [hk])
    go_loopg [4] (T.length * T.length * T.length) (fun g i wr => ∃ p : Nat, p ≤ T.length * T.length * T.length ∧ g = T.length * T.length * T.length - p ∧ i = .int .i64 p ∧ QD w wr ∧ Hid (∀ j, j < p → atK T j = true))
    case atStart => exact ⟨0, Nat.zero_le _, rfl, rfl, QD.refl _, fun _ hj => absurd hj (Nat.not_lt_zero _)⟩
    case round =>
      obtain ⟨p, hp, rfl, rfl, hq, hH⟩ := hrel
      by_cases hpt : p < T.length * T.length * T.length
      · have hpi : (p : Int) < (T.length : Int) * (T.length : Int) * (T.length : Int) := by
          have e3 : (T.length : Int) * (T.length : Int) * (T.length : Int) = ((T.length * T.length * T.length : Nat) : Int) := by simp
          rw [e3]; omega
        obtain ⟨⟨d0, d1⟩, ⟨x0, x1⟩, ⟨y0, y1⟩, z0, z1⟩ := three_int h01 h09 hpt
        have ha : atK T p = assoc T ((p : Int) / (T.length : Int) / (T.length : Int)) ((p : Int) / (T.length : Int) % (T.length : Int)) ((p : Int) % (T.length : Int)) := by
          unfold atK
          rw [div_int, div_int, mod_int, mod_int]
        have HA := hide ha
        clear ha
        go_wp2
        generalize (p : Int) / (T.length : Int) / (T.length : Int) = x at HA x0 x1 ⊢
        generalize (p : Int) / (T.length : Int) % (T.length : Int) = y at HA y0 y1 ⊢
        generalize (p : Int) % (T.length : Int) = z at HA z0 z1 ⊢
        obtain ⟨m0, m1⟩ := k.mul y0 y1 z0 z1
        obtain ⟨l0, l1⟩ := k.mul x0 x1 y0 y1
        have hcw : ∀ a, wr.cell? a = w.cell? a := fun a => by simp [World.cell?, hq.heap]
        obtain ⟨bx, ox, cx, hcx, _, _, hvx⟩ := hcell x x0 x1
        obtain ⟨by_, oy, cy, hcy, _, _, hvy⟩ := hcell y y0 y1
        obtain ⟨bl, ol, cl, hcl, _, _, hvl⟩ := hcell _ l0 l1
        have v1 := hvx y y0 y1
        have v2 := hvx _ m0 m1
        have v3 := hvy z z0 z1
        have v4 := hvl z z0 z1
        rw [← hcw] at hcx hcy hcl v1 v2 v3 v4
        clear hcw hcell hvx hvy hvl d0 d1
        go_quiet (fail)
        cases hb : assoc T x y z
        · have hne : (mul T x (mul T y z) != mul T (mul T x y) z) = true := by unfold assoc at hb; simpa using hb
          go_wp2
          go_ret
          exact ⟨ret_bool (grpT_kat k hpt (HA.out.trans hb)).symm, hq.drewN _⟩
        · have hne : (mul T x (mul T y z) != mul T (mul T x y) z) = false := by unfold assoc at hb; simpa using hb
          go_wp2
          go_roundg (T.length * T.length * T.length - (p + 1))
          case measure => go_light; omega
          case rel => go_light; exact ⟨p + 1, by omega, rfl, by go_num, hq.drewN _, fun j hj => by
            by_cases e : j = p
            · subst e; exact HA.out.trans hb
            · exact hH j (by omega)⟩
      · have hpi : ¬ (p : Int) < (T.length : Int) * (T.length : Int) * (T.length : Int) := by
          have e3 : (T.length : Int) * (T.length : Int) * (T.length : Int) = ((T.length * T.length * T.length : Nat) : Int) := by simp
          rw [e3]; omega
        obtain rfl : p = T.length * T.length * T.length := by omega
        go_wp2
        go_ret
        exact ⟨ret_bool (grpT_kall k hH.out).symm, hq⟩
end Go.Proofs.Ytnchipcpeeofaaa

namespace Go.Proofs.Ytnchipcpeeofaaa
open Go.RowKit
set_option linter.unusedVariables false


/-- The table of n rows of n numbers told by a function. -/
def tabOf (n : Nat) (f : Nat → Nat → Int) : List (List Int) := (List.range n).map fun a => (List.range n).map fun b => f a b
theorem len_tabOf (n : Nat) (f : Nat → Nat → Int) : (tabOf n f).length = n := by simp [tabOf]
theorem row_tabOf {n : Nat} {f : Nat → Nat → Int} {i : Nat} (hi : i < n) : rw_ (tabOf n f) i = (List.range n).map fun b => f i b := by simp [tabOf, rw_, List.getD, hi]
theorem rowlen_tabOf {n : Nat} {f : Nat → Nat → Int} {i : Nat} (hi : i < n) : (rw_ (tabOf n f) i).length = n := by rw [row_tabOf hi]; simp
theorem el_tabOf {n : Nat} {f : Nat → Nat → Int} {i j : Nat} (hi : i < n) (hj : j < n) : el (rw_ (tabOf n f) i) j = f i j := by rw [row_tabOf hi]; simp [el, List.getD, hj]

/-- The rows' own blocks, when a rows are made and row a is being filled. -/
structure Blocks (w wr : World) (n a : Nat) (f : Nat → Nat → Int) (G : Nat → Nat) : Prop where
  below : Below w.heap.size w wr
  size : w.heap.size < wr.heap.size
  top : wr.rowIs w.heap.size 24 n (fun j => if j < a then .slice (some ⟨G j, 0, none⟩) n n else .slice none 0 0)
  in_ : ∀ j, j < a → w.heap.size < G j ∧ G j < wr.heap.size
  up : ∀ i j, i < j → j < a → G i < G j

/-- a rows are filled. -/
structure Fill (w wr : World) (n a : Nat) (f : Nat → Nat → Int) (G : Nat → Nat) : Prop extends Blocks w wr n a f G where
  done : ∀ j, j < a → wr.rowIs (G j) 3 n (fun c => .int .i64 (f j c))

/-- a rows are filled, and b numbers of the next. -/
structure FillI (w wr : World) (n a b : Nat) (f : Nat → Nat → Int) (G : Nat → Nat) : Prop extends Blocks w wr n (a + 1) f G where
  done : ∀ j, j < a → wr.rowIs (G j) 3 n (fun c => .int .i64 (f j c))
  cur : wr.rowIs (G a) 3 n (fun c => .int .i64 (if c < b then f a c else 0))

theorem fill_start (w : World) (n : Nat) (f : Nat → Nat → Int) : Fill w (w.alloc (.cells (madeCells #[.slice none 0 0] n) 24)) n 0 f (fun _ => 0) :=
  ⟨⟨(Below.refl _ _).alloc (Nat.le_refl _) _, by simp, (World.rowIs_made w _ n 24).congr (fun j _ => by simp), fun j hj => absurd hj (Nat.not_lt_zero _), fun i j _ hj => absurd hj (Nat.not_lt_zero _)⟩, fun j hj => absurd hj (Nat.not_lt_zero _)⟩

theorem fill_row {w wr : World} {n a : Nat} {f : Nat → Nat → Int} {G : Nat → Nat} (h : Fill w wr n a f G) (ha : a < n) :
    FillI w ((wr.alloc (.cells (madeCells #[.int .i64 0] n) 3)).setCell ⟨w.heap.size, a, none⟩ (.slice (some ⟨wr.heap.size, 0, none⟩) n n)) n a 0 f (fun j => if j = a then wr.heap.size else G j) := by
  have hs := h.size
  have hnew := World.rowIs_made wr (.int .i64 0) n 3
  refine ⟨⟨(h.below.alloc (Nat.le_of_lt h.size) _).setCell (Nat.le_refl _) _, by simp; omega, ((h.top.alloc _).set a _).congr (fun j hj => ?_), fun j hj => ?_, fun i j hij hj => ?_⟩, fun j hj => ?_, ?_⟩
  · by_cases e : j = a
    · subst e; simp
    · rw [if_neg e]
      by_cases hlt : j < a
      · rw [if_pos hlt, if_pos (by omega), if_neg e]
      · rw [if_neg hlt, if_neg (by omega)]
  · by_cases e : j = a
    · subst e; simp; exact hs
    · obtain ⟨h1, h2⟩ := h.in_ j (by omega)
      simp [e]; omega
  · rw [if_neg (by omega : i ≠ a)]
    by_cases e : j = a
    · rw [if_pos e]; exact (h.in_ i (by omega)).2
    · rw [if_neg e]; exact h.up i j hij (by omega)
  · rw [show (if j = a then wr.heap.size else G j) = G j from if_neg (by omega)]
    obtain ⟨h1, h2⟩ := h.in_ j hj
    exact ((h.done j hj).alloc _).setOther (by show G j ≠ w.heap.size; omega) _
  · rw [show (if a = a then wr.heap.size else G a) = wr.heap.size from if_pos rfl]
    exact (hnew.setOther (by show wr.heap.size ≠ w.heap.size; omega) _).congr (fun i _ => by simp)

theorem FillI.call {w wr w1 : World} {n a b : Nat} {f : Nat → Nat → Int} {G : Nat → Nat} (hb : Below wr.heap.size wr w1) (h : FillI w wr n a b f G) : FillI w w1 n a b f G := by
  have hs := h.size
  refine ⟨⟨h.below.trans (hb.mono (Nat.le_of_lt h.size)), Nat.lt_of_lt_of_le h.size hb.size, h.top.of_block (hb.block _ hs), fun j hj => ⟨(h.in_ j hj).1, Nat.lt_of_lt_of_le (h.in_ j hj).2 hb.size⟩, h.up⟩,
    fun j hj => (h.done j hj).of_block (hb.block _ (h.in_ j (by omega)).2), h.cur.of_block (hb.block _ (h.in_ a (by omega)).2)⟩
theorem FillI.drew {w wr : World} {n a b : Nat} {f : Nat → Nat → Int} {G : Nat → Nat} (h : FillI w wr n a b f G) : FillI w wr.drew n a b f G :=
  ⟨⟨h.below.drew, h.size, h.top, h.in_, h.up⟩, h.done, h.cur⟩
theorem FillI.store {w wr : World} {n a b : Nat} {f : Nat → Nat → Int} {G : Nat → Nat} (h : FillI w wr n a b f G) : FillI w (wr.setCell ⟨G a, b, none⟩ (.int .i64 (f a b))) n a (b + 1) f G := by
  obtain ⟨h1, h2⟩ := h.in_ a (by omega)
  refine ⟨⟨h.below.setCell (Nat.le_of_lt h1) _, by simpa [World.setCell] using h.size, h.top.setOther (by show w.heap.size ≠ G a; omega) _, fun j hj => by simpa [World.setCell] using h.in_ j hj, h.up⟩,
    fun j hj => (h.done j hj).setOther (by have := h.up j a hj (by omega); show G j ≠ G a; omega) _, (h.cur.set b _).congr (fun c _ => ?_)⟩
  by_cases e : c = b
  · subst e; simp
  · rw [if_neg e]
    by_cases hlt : c < b
    · rw [if_pos hlt, if_pos (by omega)]
    · rw [if_neg hlt, if_neg (by omega)]
theorem fill_rowdone {w wr : World} {n a : Nat} {f : Nat → Nat → Int} {G : Nat → Nat} (h : FillI w wr n a n f G) : Fill w wr n (a + 1) f G :=
  ⟨h.toBlocks, fun j hj => by
    by_cases e : j = a
    · subst e; exact h.cur.congr (fun c hc => by rw [if_pos hc])
    · exact h.done j (by omega)⟩
theorem fill_done {w wr : World} {n : Nat} {f : Nat → Nat → Int} {G : Nat → Nat} (h : Fill w wr n n f G) : OMat wr w.heap.size wr.heap.size (some ⟨w.heap.size, 0, none⟩) (tabOf n f) := by
  refine ⟨w.heap.size, 0, G, fun _ => n, fun i hi => ?_, fun i j hi hj hne => ?_⟩
  · rw [len_tabOf] at hi
    obtain ⟨h1, h2⟩ := h.in_ i hi
    have := h.top.cell hi
    refine ⟨rfl, Nat.le_refl _, h.size, by omega, by omega, h2, by rw [rowlen_tabOf hi]; simpa [hi] using this, ?_⟩
    exact Cells.of_rowIs (h.done i hi) (by rw [rowlen_tabOf hi]; exact Nat.le_refl _) (fun j hj => by rw [rowlen_tabOf hi] at hj; rw [el_tabOf hi hj])
  · rw [len_tabOf] at hi hj
    rcases Nat.lt_or_gt_of_ne hne with hlt | hlt
    · have := h.up i j hlt hj; omega
    · have := h.up j i hlt hi; omega

/-- What a cell holds now. -/
def curV (w : World) (p : Addr) : Value := (w.cell? p).getD undef
/-- One number of a row is being filled: it is, or is not yet. -/
def FS (w : World) (n a b : Nat) (f : Nat → Nat → Int) (G : Nat → Nat) (w' : World) : Prop := FillI w w' n a b f G ∨ FillI w w' n a (b + 1) f G
section
variable {w w0 w1 : World} {n a b : Nat} {f : Nat → Nat → Int} {G : Nat → Nat}
theorem FS.call (hb : Below w0.heap.size w0 w1) (h : FS w n a b f G w0) : FS w n a b f G w1 := h.imp (·.call hb) (·.call hb)
theorem FS.top (h : FS w n a b f G w0) (ha : a < n) : w0.cell? ⟨w.heap.size, a, none⟩ = some (.slice (some ⟨G a, 0, none⟩) n n) := by
  rcases h with h | h
  all_goals have := h.top.cell ha; simpa using this
theorem FS.now (h : FS w n a b f G w0) (hb : b < n) : w0.cell? ⟨G a, b, none⟩ = some (curV w0 ⟨G a, b, none⟩) := by
  rcases h with h | h
  all_goals have := h.cur.cell hb; simp [curV, this]
theorem FS.frz (h : FS w n a b f G w0) : w0.frozen? ⟨G a, b, none⟩ = false := by
  rcases h with h | h
  all_goals exact h.cur.frozen b
theorem FS.belowStore {v : Value} (h : FS w n a b f G w0) (hb : Below w.heap.size w w0) : Below w.heap.size w (w0.setCell ⟨G a, b, none⟩ v) := by
  rcases h with h | h
  all_goals exact hb.setCell (Nat.le_of_lt (h.in_ a (by omega)).1) _
theorem FS.store (h : FS w n a b f G w0) : FS w n a b f G (w0.setCell ⟨G a, b, none⟩ (.int .i64 (f a b))) := by
  right
  rcases h with h | h
  · exact h.store
  · obtain ⟨h1, h2⟩ := h.in_ a (by omega)
    refine ⟨⟨h.below.setCell (Nat.le_of_lt h1) _, by simpa [World.setCell] using h.size, h.top.setOther (by show w.heap.size ≠ G a; omega) _, fun j hj => by simpa [World.setCell] using h.in_ j hj, h.up⟩,
      fun j hj => (h.done j hj).setOther (by have := h.up j a hj (by omega); show G j ≠ G a; omega) _, (h.cur.set b _).congr (fun c _ => ?_)⟩
    by_cases e : c = b
    · subst e; simp
    · rw [if_neg e]
theorem FS.done (h : FS w n a b f G w0) (hb : b < n) (hv : w0.cell? ⟨G a, b, none⟩ = some (.int .i64 (f a b))) : FillI w w0 n a (b + 1) f G := by
  rcases h with h | h
  · have := (h.cur.cell hb).symm.trans hv
    have e : f a b = 0 := by simpa using this.symm
    refine ⟨h.toBlocks, h.done, h.cur.congr (fun c _ => ?_)⟩
    by_cases hc : c = b
    · subst hc; simp [e]
    · by_cases hlt : c < b
      · rw [if_pos hlt, if_pos (by omega)]
      · rw [if_neg hlt, if_neg (by omega)]
  · exact h
theorem set_now {w0 : World} {p : Addr} {u v : Value} (hs : p.spot = none) (h : (w0.setCell p v).cell? p = some u) : u = v := by
  simp only [World.setCell, World.cell?, Array.getElem?_modify, if_true, hs] at h
  cases e : w0.heap[p.block]? with
  | none => simp [e] at h
  | some o =>
    cases o <;> simp [e] at h
    rw [Array.getElem?_setIfInBounds, if_pos rfl] at h
    split at h
    · exact (Option.some.inj h).symm
    · cases h
end

set_option maxRecDepth 20000 in
set_option maxHeartbeats 4000000 in
theorem filledRows_any (fid : FuncId) (caps : Array Value) (n : Nat) (f : Nat → Nat → Int) (w : World) (hn : n ≤ 9) (hcf : ∀ (args : Array Value) (w : World), (callFunc fid args).run Try.prog w = .ok (.enter fid args) w)
    (hF : ∀ (wr : World) (a b : Nat), a < n → b < n → Below w.heap.size w wr → Calls Try.prog fid (#[.int .i64 a, .int .i64 b] ++ caps) wr fun e w' => e = .returned (.int .i64 (f a b)) ∧ Below wr.heap.size wr w') :
    Calls Try.prog 62 #[.int .i64 n, .func (.func fid) #[] caps] w fun e w' => e = .returned (.slice (some ⟨w.heap.size, 0, none⟩) n n) ∧ Below w.heap.size w w' ∧ OMat w' w.heap.size w'.heap.size (some ⟨w.heap.size, 0, none⟩) (tabOf n f) := by
  have HF := hide hF
  clear hF
  have hmk := run_make_row' (P := Try.prog) 23 24 (.slice none 0 0) 24 Try.underlying23 info_row rfl .i64 .i64 n (by omega) (by omega)
  go_enter Try.func62, Try.ntmps62
  go_wp2
  clear hmk
  go_loopg [11] n (fun g i wr => ∃ (a : Nat) (G : Nat → Nat), a ≤ n ∧ g = n - a ∧ i = .int .i64 a ∧ Fill w wr n a f G)
  case atStart => exact ⟨0, _, Nat.zero_le _, rfl, rfl, fill_start w n f⟩
  case round =>
    obtain ⟨a, G, ha, rfl, rfl, hO⟩ := hrel
    by_cases hlt : a < n
    · have hmk := run_make_row' (P := Try.prog) 24 3 (.int .i64 0) 8 Try.underlying24 info_int rfl .i64 .i64 n (by omega) (by omega)
      have hst1 : ∀ o, (wr.alloc o).cell? ⟨w.heap.size, a, none⟩ = some (.slice none 0 0) := fun o => by have := (hO.top.alloc o).cell hlt; simpa using this
      have hst2 : ∀ o, (wr.alloc o).frozen? ⟨w.heap.size, a, none⟩ = false := fun o => (hO.top.alloc o).frozen a
      go_wp2
      have hI0 := fill_row hO hlt
      obtain ⟨G1, hG1⟩ : ∃ G1, G1 = fun j => if j = a then wr.heap.size else G j := ⟨_, rfl⟩
      rw [← hG1] at hI0
      clear hmk hst1 hst2 hO hG1
      go_loopg [20] n (fun g i wi => ∃ b : Nat, b ≤ n ∧ g = n - b ∧ i = .int .i64 b ∧ FillI w wi n a b f G1)
      case atStart => exact ⟨0, Nat.zero_le _, rfl, rfl, hI0⟩
      case round =>
        obtain ⟨b, hb, rfl, rfl, hI⟩ := hrel
        clear hI0
        by_cases hbt : b < n
        · have hFS : FS w n a b f G1 _ := .inl hI.drew
          have i0 : (0 : Int) ≤ (a : Int) := by omega
          have i1 : (a : Int) < (n : Int) := by omega
          have j0 : (0 : Int) ≤ (b : Int) := by omega
          have j1 : (b : Int) < (n : Int) := by omega
          go_wp2
          go_region_held3 (fun w' => w'.cell? ⟨w.heap.size, a, none⟩ = some (.slice (some ⟨G1 a, 0, none⟩) n n) ∧ w'.cell? ⟨G1 a, b, none⟩ = some (curV w' ⟨G1 a, b, none⟩) ∧ w'.frozen? ⟨G1 a, b, none⟩ = false ∧ Below w.heap.size w w' ∧ FS w n a b f G1 w')
            (first
              | exact ⟨hFS.top hlt, hFS.now hbt, hFS.frz, hI.below.drew, hFS⟩
              | (go_split_ands
                 exact ⟨FS.top (FS.call (by assumption) (by assumption)) hlt, FS.now (FS.call (by assumption) (by assumption)) hbt, FS.frz (FS.call (by assumption) (by assumption)), Below.trans (by assumption) (Below.mono (by assumption) (Below.size (by assumption))), FS.call (by assumption) (by assumption)⟩)
              | (go_split_ands
                 exact ⟨FS.top (FS.store (by assumption)) hlt, FS.now (FS.store (by assumption)) hbt, FS.frz (FS.store (by assumption)), FS.belowStore (by assumption) (by assumption), FS.store (by assumption)⟩))
            (first
              | (go_split_ands
                 refine (HF.out _ a b hlt hbt ?_).mono ?_
                 · assumption
                 rintro e w1 ⟨rfl, hbc⟩))
          rename_i hHeld
          obtain ⟨_, hc, _, _, hfs⟩ := hHeld
          have hd := FS.done hfs hbt (hc.trans (congrArg some (set_now rfl hc)))
          clear hc hfs hI
          go_wp2
          go_roundg (n - (b + 1))
          case measure => go_light; omega
          case rel => go_light; exact ⟨b + 1, by omega, rfl, by go_num, hd⟩
        · obtain rfl : b = n := by omega
          go_wp2
          go_roundg (b - (a + 1))
          case measure => go_light; omega
          case rel => go_light; exact ⟨a + 1, G1, by omega, rfl, by go_num, fill_rowdone hI⟩
    · obtain rfl : a = n := by omega
      go_wp2
      go_ret
      exact ⟨rfl, hO.below, fill_done hO⟩
end Go.Proofs.Ytnchipcpeeofaaa

namespace Go.Proofs.Ytnchipcpeeofaaa
open Go.RowKit
set_option linter.unusedVariables false


/-- A call that returns a new table. -/
def NewTab (w : World) (T : List (List Int)) (e : Ending) (w' : World) : Prop := ∃ A c, e = .returned (.slice A T.length c) ∧ Below w.heap.size w w' ∧ Mat w' w.heap.size w'.heap.size A T
/-- A call that returns a new table, each row in a block of its own. -/
def OwnTab (w : World) (T : List (List Int)) (e : Ending) (w' : World) : Prop := ∃ A c, e = .returned (.slice A T.length c) ∧ Below w.heap.size w w' ∧ OMat w' w.heap.size w'.heap.size A T

theorem ret_slice {A : Option Addr} {n m c : Nat} (h : n = m) : Ending.returned (.slice A n c) = .returned (.slice A m c) := by rw [h]
end Go.Proofs.Ytnchipcpeeofaaa

namespace Go.Proofs.Ytnchipcpeeofaaa
open Go.RowKit
set_option linter.unusedVariables false


theorem wrapQ (x y : Int) (hx : 0 ≤ x) (hx2 : x ≤ 1000000) (hy : 1 ≤ y) : IntKind.i64.wrap (x / y) = x / y ∧ IntKind.i64.wrap (x.tdiv y) = x / y ∧ x.tdiv y = x / y ∧ x.tmod y = x % y := by
  have hd : x.tdiv y = x / y := Int.tdiv_eq_ediv_of_nonneg hx
  have h1 : 0 ≤ x / y := Int.ediv_nonneg hx (by omega)
  have h2 : x / y ≤ x := Int.ediv_le_self _ hx
  have e : IntKind.i64.wrap (x / y) = x / y := IntWalk.i64_in _ ⟨by omega, by omega⟩
  exact ⟨e, by rw [hd]; exact e, hd, Int.tmod_eq_emod_of_nonneg hx⟩
end Go.Proofs.Ytnchipcpeeofaaa

namespace Go.Proofs.Ytnchipcpeeofaaa
set_option linter.unusedVariables false

/-- Whether a rule holds of a thing and all; of all and all; the first thing of which it holds with all. -/
def allR (n : Nat) (r : Nat → Nat → Bool) (a : Nat) : Bool := (List.range n).all (r a)
def allRR (n : Nat) (r : Nat → Nat → Bool) : Bool := (List.range n).all fun a => allR n r a
theorem allR_iff {n : Nat} {r : Nat → Nat → Bool} {a : Nat} : allR n r a = true ↔ ∀ b, b < n → r a b = true := by
  unfold allR
  rw [List.all_eq_true]
  exact ⟨fun h b hb => h b (List.mem_range.2 hb), fun h b hb => h b (List.mem_range.1 hb)⟩
theorem allR_false {n : Nat} {r : Nat → Nat → Bool} {a b : Nat} (hb : b < n) (h : r a b = false) : allR n r a = false := by
  cases e : allR n r a with
  | false => rfl
  | true => have := allR_iff.1 e b hb; rw [h] at this; cases this
theorem allRR_iff {n : Nat} {r : Nat → Nat → Bool} : allRR n r = true ↔ ∀ a b, a < n → b < n → r a b = true := by
  unfold allRR
  rw [List.all_eq_true]
  exact ⟨fun h a b ha hb => allR_iff.1 (h a (List.mem_range.2 ha)) b hb, fun h a ha => allR_iff.2 fun b hb => h a b (List.mem_range.1 ha) hb⟩
theorem allRR_at {n : Nat} {r : Nat → Nat → Bool} {a : Nat} (ha : a < n) (h : allR n r a = false) : allRR n r = false := by
  cases e : allRR n r with
  | false => rfl
  | true => have := allR_iff.2 fun b hb => allRR_iff.1 e a b ha hb; rw [h] at this; cases this
theorem allRR_false {n : Nat} {r : Nat → Nat → Bool} {a b : Nat} (ha : a < n) (hb : b < n) (h : r a b = false) : allRR n r = false := allRR_at ha (allR_false hb h)
theorem allRR_of {n : Nat} {r : Nat → Nat → Bool} (h : ∀ a, a < n → allR n r a = true) : allRR n r = true := allRR_iff.2 fun a b ha hb => allR_iff.1 (h a ha) b hb
def rOwn (T : List (List Int)) (a _b : Nat) : Bool := mul T (a : Int) (a : Int) == (a : Int)
def rEither (T : List (List Int)) (a b : Nat) : Bool := mul T (a : Int) (b : Int) == mul T (b : Int) (a : Int)
def rFirst (T : List (List Int)) (a b : Nat) : Bool := mul T (a : Int) (b : Int) == (a : Int)
def rZero (T : List (List Int)) (a b : Nat) : Bool := mul T (a : Int) (b : Int) == (a : Int) && mul T (b : Int) (a : Int) == (a : Int)
noncomputable def bandT (T : List (List Int)) : Bool := grpT T && allRR T.length (rOwn T)
noncomputable def meetT (T : List (List Int)) : Bool := bandT T && allRR T.length (rEither T)
noncomputable def firstT (T : List (List Int)) : Bool := bandT T && allRR T.length (rFirst T)
/-- A band. -/
structure IsB (T : List (List Int)) : Prop where
  g : IsG T
  sq : ∀ x : Int, 0 ≤ x → x < T.length → mul T x x = x
theorem bandT_iff {T : List (List Int)} : bandT T = true ↔ IsB T := by
  unfold bandT
  rw [Bool.and_eq_true, grpT_iff, allRR_iff]
  constructor
  · rintro ⟨g, h⟩
    refine ⟨g, fun x x0 x1 => ?_⟩
    have := h x.toNat x.toNat (by omega) (by omega)
    unfold rOwn at this
    rw [Int.toNat_of_nonneg x0] at this
    simpa using this
  · rintro ⟨g, h⟩
    exact ⟨g, fun a b ha hb => by unfold rOwn; rw [h (a : Nat) (by omega) (by omega)]; simp⟩
theorem bandT_grp {T : List (List Int)} (h : grpT T = false) : bandT T = false := by unfold bandT; rw [h]; rfl
theorem band_cond {T : List (List Int)} {r : Nat → Nat → Bool} {R : Int → Int → Prop} (hr : ∀ a b : Nat, r a b = true ↔ R a b) : (bandT T && allRR T.length r) = true ↔ IsB T ∧ ∀ x y : Int, 0 ≤ x → x < T.length → 0 ≤ y → y < T.length → R x y := by
  rw [Bool.and_eq_true, bandT_iff, allRR_iff]
  refine and_congr_right fun _ => ⟨fun h x y x0 x1 y0 y1 => ?_, fun h a b ha hb => (hr a b).2 (h a b (by omega) (by omega) (by omega) (by omega))⟩
  have := (hr _ _).1 (h x.toNat y.toNat (by omega) (by omega))
  rwa [Int.toNat_of_nonneg x0, Int.toNat_of_nonneg y0] at this
theorem meetT_iff {T : List (List Int)} : meetT T = true ↔ IsB T ∧ ∀ x y : Int, 0 ≤ x → x < T.length → 0 ≤ y → y < T.length → mul T x y = mul T y x := band_cond (R := fun x y => mul T x y = mul T y x) fun a b => by unfold rEither; exact beq_iff_eq
theorem firstT_iff {T : List (List Int)} : firstT T = true ↔ IsB T ∧ ∀ x y : Int, 0 ≤ x → x < T.length → 0 ≤ y → y < T.length → mul T x y = x := band_cond (R := fun x y => mul T x y = x) fun a b => by unfold rFirst; exact beq_iff_eq
theorem bandT_ok {T : List (List Int)} (h : okT T = false) : bandT T = false := bandT_grp (grpT_not h)
section
variable {T U : List (List Int)}
end
end Go.Proofs.Ytnchipcpeeofaaa

namespace Go.Proofs.Ytnchipcpeeofaaa
set_option linter.unusedVariables false

/-- n things fit into m places only if n ≤ m. -/
theorem pigeon : ∀ (m n : Nat) (f : Nat → Nat), (∀ i, i < n → f i < m) → (∀ i j, i < n → j < n → f i = f j → i = j) → n ≤ m
  | 0, n, f, h, _ => by
    rcases Nat.eq_zero_or_pos n with h0 | h0
    · omega
    · have := h 0 h0; omega
  | m + 1, n, f, h, hi => by
    by_cases hx : ∃ i, i < n ∧ f i = m
    · obtain ⟨i, hin, hfi⟩ := hx
      have := pigeon m (n - 1) (fun j => if j < i then f j else f (j + 1)) (fun j hj => by
        split
        · rename_i hlt
          have h1 := h j (by omega)
          have h2 : f j ≠ m := fun e => by have := hi j i (by omega) hin (e.trans hfi.symm); omega
          omega
        · rename_i hlt
          have h1 := h (j + 1) (by omega)
          have h2 : f (j + 1) ≠ m := fun e => by have := hi (j + 1) i (by omega) hin (e.trans hfi.symm); omega
          omega) (fun j k hj hk he => by
        split at he <;> split at he
        · exact hi j k (by omega) (by omega) he
        · have := hi j (k + 1) (by omega) (by omega) he; omega
        · have := hi (j + 1) k (by omega) (by omega) he; omega
        · have := hi (j + 1) (k + 1) (by omega) (by omega) he; omega)
      omega
    · have := pigeon m n f (fun j hj => by
        have h1 := h j hj
        have h2 : f j ≠ m := fun e => hx ⟨j, hj, e⟩
        omega) hi
      omega

/-- Whether a thing is the first of its class; how many first things there are below k; the first thing of a class; the number of a class, counted by first things. -/
def rp (r : Nat → Nat → Bool) (a : Nat) : Bool := (List.range a).all fun b => !r a b
def ct (r : Nat → Nat → Bool) : Nat → Nat
  | 0 => 0
  | k + 1 => ct r k + (if rp r k = true then 1 else 0)
def fs (r : Nat → Nat → Bool) (a : Nat) : Nat := ((List.range a).find? (r a)).getD a
def num (r : Nat → Nat → Bool) (a : Nat) : Nat := ct r (fs r a)
/-- Sameness of things below n. -/
structure Eqv (r : Nat → Nat → Bool) (n : Nat) : Prop where
  refl : ∀ a, a < n → r a a = true
  symm : ∀ a b, a < n → b < n → r a b = true → r b a = true
  trans : ∀ a b c, a < n → b < n → c < n → r a b = true → r b c = true → r a c = true
section
variable {r : Nat → Nat → Bool} {n : Nat}
theorem rp_iff {a : Nat} : rp r a = true ↔ ∀ b, b < a → r a b = false := by
  unfold rp
  rw [List.all_eq_true]
  exact ⟨fun h b hb => by simpa using h b (List.mem_range.2 hb), fun h b hb => by simpa using h b (List.mem_range.1 hb)⟩
theorem ct_mono : ∀ {j k : Nat}, j ≤ k → ct r j ≤ ct r k := fun {j k} h => by
  induction h with
  | refl => exact Nat.le_refl _
  | step _ ih => exact Nat.le_trans ih (Nat.le_add_right _ _)
theorem ct_rp {a : Nat} (h : rp r a = true) : ct r (a + 1) = ct r a + 1 := by simp [ct, h]
theorem ct_not {a : Nat} (h : rp r a = false) : ct r (a + 1) = ct r a := by simp [ct, h]
theorem fs_rp {a : Nat} (h : rp r a = true) : fs r a = a := by
  unfold fs
  rw [List.find?_eq_none.2 (fun b hb => by rw [rp_iff.1 h b (List.mem_range.1 hb)]; exact Bool.false_ne_true)]
  rfl
theorem fs_some {a : Nat} (h : rp r a = false) : fs r a < a ∧ r a (fs r a) = true ∧ ∀ b, b < fs r a → r a b = false := by
  unfold fs
  cases e : (List.range a).find? (r a) with
  | none =>
    have : rp r a = true := rp_iff.2 fun b hb => by
      have := List.find?_eq_none.1 e b (List.mem_range.2 hb)
      simpa using this
    rw [h] at this; cases this
  | some b =>
    rw [List.find?_range_eq_some] at e
    exact ⟨List.mem_range.1 e.2.1, e.1, fun c hc => by have := e.2.2 c hc; simpa using this⟩
theorem fs_le (a : Nat) : fs r a ≤ a := by
  cases h : rp r a
  · exact Nat.le_of_lt (fs_some h).1
  · exact Nat.le_of_eq (fs_rp h)
theorem Eqv.fs_same (E : Eqv r n) {a : Nat} (ha : a < n) : r a (fs r a) = true := by
  cases h : rp r a
  · exact (fs_some h).2.1
  · rw [fs_rp h]; exact E.refl a ha
theorem Eqv.fs_least (E : Eqv r n) {a b : Nat} (ha : a < n) (hb : b < n) (h : r a b = true) : fs r a ≤ b := by
  rcases Nat.lt_or_ge b (fs r a) with hl | hl
  · cases hr : rp r a
    · rw [(fs_some hr).2.2 b hl] at h; cases h
    · rw [fs_rp hr] at hl
      rw [rp_iff.1 hr b hl] at h; cases h
  · exact hl
theorem Eqv.fs_eq (E : Eqv r n) {a b : Nat} (ha : a < n) (hb : b < n) (h : r a b = true) : fs r a = fs r b := by
  have h1 := fs_le (r := r) a
  have h2 := fs_le (r := r) b
  have k1 := E.fs_least ha (by omega) (E.trans a b (fs r b) ha hb (by omega) h (E.fs_same hb))
  have k2 := E.fs_least hb (by omega) (E.trans b a (fs r a) hb ha (by omega) (E.symm a b ha hb h) (E.fs_same ha))
  omega
theorem Eqv.fs_first (E : Eqv r n) {a : Nat} (ha : a < n) : rp r (fs r a) = true := by
  have h1 := fs_le (r := r) a
  refine rp_iff.2 fun b hb => ?_
  cases e : r (fs r a) b with
  | false => rfl
  | true =>
    have := E.fs_least ha (by omega) (E.trans a (fs r a) b ha (by omega) (by omega) (E.fs_same ha) e)
    omega
theorem Eqv.num_eq (E : Eqv r n) {a b : Nat} (ha : a < n) (hb : b < n) (h : r a b = true) : num r a = num r b := by unfold num; rw [E.fs_eq ha hb h]
theorem Eqv.num_ne (E : Eqv r n) {a b : Nat} (ha : a < n) (hb : b < n) (h : num r a = num r b) : r a b = true := by
  have key : ∀ {x y : Nat}, x < n → y < n → fs r x < fs r y → num r x < num r y := fun {x y} hx hy hl => by
    have h1 := ct_rp (E.fs_first hx)
    have h2 := ct_mono (r := r) (j := fs r x + 1) (k := fs r y) hl
    unfold num; omega
  have he : fs r a = fs r b := by
    rcases Nat.lt_trichotomy (fs r a) (fs r b) with hl | hl | hl
    · have := key ha hb hl; omega
    · exact hl
    · have := key hb ha hl; omega
  have h1 := fs_le (r := r) a
  have h3 := E.fs_same hb
  rw [← he] at h3
  exact E.trans a (fs r a) b ha (by omega) hb (E.fs_same ha) (E.symm b (fs r a) hb (by omega) h3)
theorem Eqv.num_lt (E : Eqv r n) {a k : Nat} (ha : a < n) (hk : a < k) : num r a < ct r k := by
  have h1 := ct_rp (E.fs_first ha)
  have h2 := fs_le (r := r) a
  have h3 := ct_mono (r := r) (j := fs r a + 1) (k := k) (by omega)
  unfold num; omega
theorem num_rp {a : Nat} (h : rp r a = true) : num r a = ct r a := by unfold num; rw [fs_rp h]
/-- The next number. -/
theorem Eqv.next (E : Eqv r n) {k : Nat} (hk : k < n) : max (ct r k) (num r k + 1) = ct r (k + 1) := by
  cases h : rp r k
  · rw [ct_not h]
    have h1 := ct_rp (E.fs_first hk)
    have h2 := (fs_some h).1
    have h3 := ct_mono (r := r) (j := fs r k + 1) (k := k) h2
    unfold num; omega
  · rw [ct_rp h, num_rp h]; omega
theorem ct_reach : ∀ {k v : Nat}, v < ct r k → ∃ a, a < k ∧ rp r a = true ∧ ct r a = v
  | 0, v, h => absurd h (Nat.not_lt_zero _)
  | k + 1, v, h => by
    by_cases hv : v < ct r k
    · obtain ⟨a, h1, h2⟩ := ct_reach hv
      exact ⟨a, by omega, h2⟩
    · cases hr : rp r k
      · rw [ct_not hr] at h; omega
      · rw [ct_rp hr] at h
        exact ⟨k, by omega, hr, by omega⟩
theorem num_reach {k v : Nat} (h : v < ct r k) : ∃ a, a < k ∧ num r a = v := by
  obtain ⟨a, h1, h2, h3⟩ := ct_reach h
  exact ⟨a, h1, by rw [num_rp h2, h3]⟩
theorem ct_pos {k : Nat} (h : 0 < k) : 0 < ct r k := by
  have : ct r 1 = 1 := by simp [ct, rp]
  have := ct_mono (r := r) (j := 1) (k := k) h
  omega
end

section
variable {T : List (List Int)}
end
section
variable {R C : Nat}
end
section
variable {T : List (List Int)}
end
end Go.Proofs.Ytnchipcpeeofaaa

namespace Go.Proofs.Ytnchipcpeeofaaa
open Go.RowKit
set_option linter.unusedVariables false


theorem bits_i64 {a b : Nat} (ha : a < 1024) (hb : b < 1024) : bits .and .i64 (a : Int) (b : Int) = ((a &&& b : Nat) : Int) ∧ bits .or .i64 (a : Int) (b : Int) = ((a ||| b : Nat) : Int) :=
  bits_nat .i64 10 (by decide) (fun n h0 h1 => IntWalk.i64_in _ ⟨by omega, by omega⟩) a b ha hb
theorem pow_le9 {p : Nat} (hp : p ≤ 9) : 1 ≤ 2 ^ p ∧ 2 ^ p ≤ 512 := ⟨Nat.one_le_two_pow, by have : 2 ^ p ≤ 2 ^ 9 := Nat.pow_le_pow_right (by omega) hp; omega⟩
theorem pow_int {p : Nat} (hp : p ≤ 9) : (1 : Int) ≤ (2 : Int) ^ p ∧ (2 : Int) ^ p ≤ 512 := by
  have h := pow_le9 hp
  have e : (2 : Int) ^ p = ((2 ^ p : Nat) : Int) := by simp
  rw [e]; omega
theorem and_two (s p : Nat) : s &&& 2 ^ p = if s.testBit p = true then 2 ^ p else 0 := by
  apply Nat.eq_of_testBit_eq
  intro i
  rw [Nat.testBit_and, Nat.testBit_two_pow]
  by_cases e : p = i
  · subst e
    cases h : s.testBit p <;> simp
  · have e2 : ((if s.testBit p = true then 2 ^ p else 0) : Nat).testBit i = false := by
      split
      · rw [Nat.testBit_two_pow]; simp [e]
      · simp
    rw [e2]; simp [e]
theorem and_pow {s p : Nat} (hs : s < 1024) (hp : p ≤ 9) : bits .and .i64 (s : Int) ((2 : Int) ^ p) = if s.testBit p = true then (2 : Int) ^ p else 0 := by
  have h := pow_le9 hp
  have e : (2 : Int) ^ p = ((2 ^ p : Nat) : Int) := by simp
  rw [e, (bits_i64 hs (by omega)).1, and_two]
  cases s.testBit p <;> simp
theorem or_pow {s p : Nat} (hs : s < 1024) (hp : p ≤ 9) : bits .or .i64 (s : Int) ((2 : Int) ^ p) = ((s ||| 2 ^ p : Nat) : Int) := by
  have h := pow_le9 hp
  have e : (2 : Int) ^ p = ((2 ^ p : Nat) : Int) := by simp
  rw [e, (bits_i64 hs (by omega)).2]

/-- The things of a set, below k. -/
def thk (s k : Nat) : List Int := List.map (fun p : Nat => (p : Int)) ((List.range k).filter fun p => s.testBit p)
theorem thk_succ (s k : Nat) : thk s (k + 1) = thk s k ++ (if s.testBit k = true then [(k : Int)] else []) := by
  unfold thk
  rw [List.range_succ, List.filter_append, List.map_append]
  by_cases h : s.testBit k = true <;> simp [h]
theorem len_thk (s k : Nat) : (thk s k).length ≤ k := by
  unfold thk
  rw [List.length_map]
  have := List.length_filter_le (fun p => s.testBit p) (List.range k)
  simpa using this

set_option maxHeartbeats 1000000 in
theorem setOk_any (s : Int) (n : Nat) (w : World) (hn : n ≤ 9) :
    Calls Try.prog 57 #[.int .i64 s, .int .i64 n] w fun e w' => e = .returned (.bool (decide (0 ≤ s) && decide (s < 2 ^ n))) ∧ w = w' := by
  obtain ⟨h1, h2⟩ := pow_int hn
  by_cases h0 : 0 ≤ s
  · go_enter Try.func57, Try.ntmps57
    go_wp2
    go_ret
    exact ⟨ret_bool (by simp [h0]), rfl⟩
  · go_enter Try.func57, Try.ntmps57
    go_wp2
    go_ret
    exact ⟨ret_bool (by have : decide (0 ≤ s) = false := by simpa using h0
                        rw [this]; rfl), rfl⟩

/-- A call that returns a new row. -/
def NewRow (w : World) (xs : List Int) (e : Ending) (w' : World) : Prop := ∃ A c, e = .returned (.slice A xs.length c) ∧ Below w.heap.size w w' ∧ Row w' w.heap.size w'.heap.size A xs ∧ xs.length ≤ c ∧ c ≤ 9223372036854775807
set_option maxHeartbeats 1000000 in
theorem thingsIn_any (s : Nat) (w : World) (hs : s < 1024) : Calls Try.prog 61 #[.int .i64 s] w (NewRow w (thk s 9)) := by
  go_enter Try.func61, Try.ntmps61
  go_wp2
  go_loopg [5, 3] 9 (fun g i v wr => ∃ p : Nat, p ≤ 9 ∧ Hid (g = 9 - p) ∧ i = .int .i64 p ∧ ARow w.heap.size wr v (thk s p) ∧ Below w.heap.size w wr)
  case atStart => exact ⟨0, Nat.zero_le _, rfl, rfl, ARow.nil_ _ _, Below.refl _ _⟩
  case round =>
    obtain ⟨p, hp, hgk, rfl, hA, hB⟩ := hrel
    by_cases hlt : p < 9
    · have hpi : (p : Int) < 9 := by omega
      obtain ⟨h1, h2⟩ := pow_int hp
      have hl := len_thk s p
      have hl' : (thk s p).length ≤ 1048576 := by omega
      have hand := and_pow hs hp
      have hsz := hB.size
      cases hb : s.testBit p
      · rw [hb] at hand
        have hand2 : bits .and .i64 (s : Int) ((2 : Int) ^ p) = 0 := by simpa using hand
        have HS := hide (thk_succ s p)
        clear hand
        go_wp2
        go_roundg (9 - (p + 1))
        case measure => go_light; have := hgk.out; omega
        case rel => go_light; exact ⟨p + 1, by omega, rfl, by go_num, by rw [HS.out, hb]; simpa using hA, hB⟩
      · rw [hb] at hand
        have hand2 : bits .and .i64 (s : Int) ((2 : Int) ^ p) = (2 : Int) ^ p := by simpa using hand
        have hne : ((2 : Int) ^ p == 0) = false := beq_eq_false_iff_ne.2 (by omega)
        have hne2 : ((2 : Int) ^ p != 0) = true := by rw [bne, hne]; rfl
        have HS := hide (thk_succ s p)
        clear hand
        go_wp2_with (at_builtin; refine wp_app_int rfl (.tmp 13) (.tmp 15) rfl w.heap.size _ _ _ _ rfl rfl hA hl' hsz ?_; intro v1 w1 hown1 hg1)
        go_roundg (9 - (p + 1))
        case measure => go_light; have := hgk.out; omega
        case rel => go_light; exact ⟨p + 1, by omega, rfl, by go_num, by rw [HS.out, hb]; simpa using hown1, hB.trans (hA.belowOf hg1 (Nat.le_refl _) hsz)⟩
    · obtain rfl : 9 = p := by omega
      obtain ⟨A', c', rfl, h1, h2, hR⟩ := hA.val
      go_wp2
      go_ret
      exact ⟨A', c', rfl, hB, hR, h1, h2⟩
end Go.Proofs.Ytnchipcpeeofaaa

namespace Go.Proofs.Ytnchipcpeeofaaa
open Go.RowKit
set_option linter.unusedVariables false


theorem bit_lt {s n a : Nat} (hs : s < 2 ^ n) (h : s.testBit a = true) : a < n := by
  rcases Nat.lt_or_ge a n with h1 | h1
  · exact h1
  · have : s.testBit a = false := Nat.testBit_lt_two_pow (Nat.lt_of_lt_of_le hs (Nat.pow_le_pow_right (by omega) h1))
    rw [h] at this; cases this
theorem thk_mem {s : Nat} {j : Nat} (hj : j < (thk s 9).length) : ∃ a : Nat, el (thk s 9) j = (a : Int) ∧ s.testBit a = true ∧ a < 9 := by
  rw [el_eq hj]
  have := List.getElem_mem hj
  unfold thk at this ⊢
  rw [List.mem_map] at this
  obtain ⟨a, ha, e⟩ := this
  rw [List.mem_filter, List.mem_range] at ha
  exact ⟨a, e.symm, ha.2, ha.1⟩
theorem thk_of {s a : Nat} (h : s.testBit a = true) (h9 : a < 9) : ∃ j, j < (thk s 9).length ∧ el (thk s 9) j = (a : Int) := by
  have : (a : Int) ∈ thk s 9 := by
    unfold thk
    rw [List.mem_map]
    exact ⟨a, by rw [List.mem_filter, List.mem_range]; exact ⟨h9, h⟩, rfl⟩
  obtain ⟨j, hj, e⟩ := List.getElem_of_mem this
  exact ⟨j, hj, by rw [el_eq hj]; exact e⟩
/-- A set that has the products of its things. -/
def Clos (T : List (List Int)) (m : Nat) : Prop := ∀ a b : Nat, m.testBit a = true → m.testBit b = true → m.testBit (mul T a b).toNat = true
/-- m is s and the products of its things, all or some; nothing else. -/
structure Grown (T : List (List Int)) (s m : Nat) : Prop where
  lt : m < 2 ^ T.length
  sub : ∀ x, s.testBit x = true → m.testBit x = true
  only : ∀ x, m.testBit x = true → s.testBit x = true ∨ ∃ a b : Nat, s.testBit a = true ∧ s.testBit b = true ∧ x = (mul T a b).toNat
theorem Grown.refl {T : List (List Int)} {s : Nat} (h : s < 2 ^ T.length) : Grown T s s := ⟨h, fun _ hx => hx, fun _ hx => .inl hx⟩
theorem Grown.add {T : List (List Int)} {s m : Nat} (h : Grown T s m) (k : IsT T) (hs : s < 2 ^ T.length) {a b : Nat} (ha : s.testBit a = true) (hb : s.testBit b = true) : Grown T s (m ||| 2 ^ (mul T a b).toNat) := by
  have a1 := bit_lt hs ha
  have b1 := bit_lt hs hb
  obtain ⟨p0, p1⟩ := k.mul (x := (a : Nat)) (y := (b : Nat)) (by omega) (by omega) (by omega) (by omega)
  refine ⟨Nat.or_lt_two_pow h.lt (Nat.pow_lt_pow_right (by omega) (by omega)), fun x hx => ?_, fun x hx => ?_⟩
  · rw [Nat.testBit_or, h.sub x hx]; rfl
  · rw [Nat.testBit_or, Bool.or_eq_true, Nat.testBit_two_pow, decide_eq_true_iff] at hx
    rcases hx with hx | hx
    · exact h.only x hx
    · exact .inr ⟨a, b, ha, hb, hx.symm⟩
/-- The least set with all products. -/
structure Made (T : List (List Int)) (s m : Nat) : Prop where
  lt : m < 2 ^ T.length
  sub : ∀ x, s.testBit x = true → m.testBit x = true
  clos : Clos T m
  least : ∀ q, Clos T q → (∀ x, s.testBit x = true → q.testBit x = true) → ∀ x, m.testBit x = true → q.testBit x = true
theorem Made.unique {T : List (List Int)} {s m m' : Nat} (h : Made T s m) (h' : Made T s m') : m = m' := by
  apply Nat.eq_of_testBit_eq
  intro i
  have h1 := h.least m' h'.clos h'.sub i
  have h2 := h'.least m h.clos h.sub i
  cases e : m.testBit i <;> cases e' : m'.testBit i
  · rfl
  · rw [h2 e'] at e; cases e
  · rw [h1 e] at e'; cases e'
  · rfl

/-- What a call of withProducts answers: all products are there. -/
def Step (T : List (List Int)) (s : Nat) (w : World) (e : Ending) (w' : World) : Prop :=
  ∃ m : Nat, e = .returned (.int .i64 (m : Nat)) ∧ Grown T s m ∧ (∀ a b : Nat, s.testBit a = true → s.testBit b = true → m.testBit (mul T a b).toNat = true) ∧ Below w.heap.size w w'

set_option maxHeartbeats 2000000 in
theorem withProducts_any (A : Option Addr) (c lo hi : Nat) (T : List (List Int)) (s : Nat) (w : World) (h : Mat w lo hi A T) (hh : hi ≤ w.heap.size) (k : IsT T) (hs : s < 2 ^ T.length) :
    Calls Try.prog 58 #[.agg #[.slice A T.length c], .int .i64 s] w (Step T s w) := by
  have k9 := k.hi
  have hp9 := pow_le9 k9
  have hs1 : s < 1024 := by omega
  have b0 := (Below.refl w.heap.size w).alloc (Nat.le_refl _) (.cells #[.slice A T.length c] 53)
  have e0 := heap_alloc_new w (.cells #[.slice A T.length c] 53)
  have MK := hide (fun (W : World) (hW : Below (w.heap.size + 1) (w.alloc (.cells #[.slice A T.length c] 53)) W) =>
    (show W.cell? ⟨w.heap.size, 0, none⟩ = some (.slice A T.length c) from by
      rw [cell_of_row W w.heap.size 0 _ _ _ ((hW.block w.heap.size (by omega)).trans e0)]; rfl))
  have hz0 : (w.alloc (.cells #[.slice A T.length c] 53)).heap.size = w.heap.size + 1 := by simp
  have HZ := hide hz0
  clear e0 hz0
  go_enter Try.func58, Try.ntmps58
  go_wp2_with fail
  refine (thingsIn_any s _ hs1).mono ?_
  rintro e w1 ⟨A1, c1, rfl, b1, hR, hc1, hc2⟩
  rw [HZ.out] at b1 hR
  have hL := len_thk s 9
  obtain ⟨L, hLe⟩ : ∃ L, L = (thk s 9).length := ⟨_, rfl⟩
  rw [← hLe] at hL hc1 ⊢
  have HLE := hide hLe
  clear hLe
  have B1 := b0.trans (b1.mono (by omega))
  go_wp2
  go_loopg [16, 6] L (fun g i v wr => ∃ p m : Nat, p ≤ L ∧ Hid (g = L - p) ∧ i = .int .i64 p ∧ v = .int .i64 (m : Nat) ∧ Grown T s m ∧ Below w1.heap.size w1 wr ∧ Hid (∀ i j, i < p → j < L → m.testBit (mul T (el (thk s 9) i) (el (thk s 9) j)).toNat = true))
  case atStart => exact ⟨0, s, Nat.zero_le _, rfl, rfl, rfl, Grown.refl hs, Below.refl _ _, fun i j hi => absurd hi (Nat.not_lt_zero _)⟩
  case round =>
    obtain ⟨p, m, hp, hgk, rfl, rfl, hG, hB, hH⟩ := hrel
    by_cases hlt : p < L
    · obtain ⟨b, o, rfl, _, hbh, hc⟩ := (hR.below hB (Nat.le_refl _)) p (by rw [← HLE.out]; exact hlt)
      obtain ⟨x, hx, hsx, _⟩ := thk_mem (s := s) (j := p) (by rw [← HLE.out]; exact hlt)
      rw [hx] at hc
      have HX := hide hx
      clear hx
      have hpi : (p : Int) < (L : Int) := by omega
      obtain ⟨wo, rfl⟩ : ∃ wo : World, wo = wr := ⟨_, rfl⟩
      go_wp2
      go_loopg [22, 6] L (fun g i v wr => ∃ q m2 : Nat, q ≤ L ∧ Hid (g = L - q) ∧ i = .int .i64 q ∧ v = .int .i64 (m2 : Nat) ∧ Grown T s m2 ∧ Below w1.heap.size w1 wr ∧ Hid (∀ i j, (i < p ∧ j < L ∨ i = p ∧ j < q) → m2.testBit (mul T (el (thk s 9) i) (el (thk s 9) j)).toNat = true))
      case atStart => exact ⟨0, m, Nat.zero_le _, rfl, rfl, rfl, hG, hB, fun i j hij => by
        rcases hij with hij | hij
        · exact hH i j hij.1 hij.2
        · omega⟩
      case round =>
        clear hc
        obtain ⟨q, m2, hq, hgk2, rfl, rfl, hG2, hB2, hH2⟩ := hrel
        by_cases hqt : q < L
        · obtain ⟨b', o', e', _, _, hc2'⟩ := (hR.below hB2 (Nat.le_refl _)) q (by rw [← HLE.out]; exact hqt)
          obtain ⟨rfl, rfl⟩ : b = b' ∧ o = o' := by simpa using e'
          clear e'
          obtain ⟨y, hy, hsy, _⟩ := thk_mem (s := s) (j := q) (by rw [← HLE.out]; exact hqt)
          rw [hy] at hc2'
          have HY := hide hy
          clear hy
          have hqi : (q : Int) < (L : Int) := by omega
          have hx1 := bit_lt hs hsx
          have hy1 := bit_lt hs hsy
          have hBw := b1.trans (hB2.mono (by have := b1.size; rw [HZ.out] at this; exact this))
          have hcell := MK.out _ hBw
          have BW := B1.trans (hB2.mono B1.size)
          go_wp2_with fail
          refine (product_any _ _ lo hi T _ _ _ (h.below BW hh) (Nat.le_trans hh BW.size) k (by omega) (by omega) (by omega) (by omega)).mono ?_
          rintro e w3 ⟨rfl, b3⟩
          obtain ⟨v0, v1⟩ := k.mul (x := (x : Nat)) (y := (y : Nat)) (by omega) (by omega) (by omega) (by omega)
          have hGn := hG2.add k hs hsx hsy
          obtain ⟨z, hz⟩ : ∃ z : Nat, mul T (x : Nat) (y : Nat) = (z : Nat) := ⟨(mul T (x : Nat) (y : Nat)).toNat, by omega⟩
          rw [hz, Int.toNat_natCast] at hGn
          rw [hz] at v1 ⊢
          have HZZ := hide hz
          clear hz v0
          have hz9 : z ≤ 9 := by omega
          obtain ⟨g1, g2⟩ := pow_int hz9
          have hm1 : m2 < 1024 := by have := hG2.lt; omega
          have hor := or_pow hm1 hz9
          have HOR := hide hor
          clear hor
          have hB3 := hB2.trans (b3.mono hB2.size)
          go_wp2
          go_roundg (L - (q + 1))
          case measure => go_light; have := hgk2.out; omega
          case rel => go_light; exact ⟨q + 1, m2 ||| 2 ^ z, by omega, rfl, by go_num, by rw [HOR.out], hGn, hB3, fun i j hij => by
            rw [Nat.testBit_or, Bool.or_eq_true]
            by_cases e : i = p ∧ j = q
            · right
              obtain ⟨rfl, rfl⟩ := e
              rw [HX.out, HY.out, HZZ.out, Int.toNat_natCast, Nat.testBit_two_pow]
              simp
            · left
              exact hH2 i j (by omega)⟩
        · obtain rfl : L = q := by omega
          go_wp2
          go_roundg (L - (p + 1))
          case measure => go_light; have := hgk.out; omega
          case rel => go_light; exact ⟨p + 1, m2, by omega, rfl, by go_num, rfl, hG2, hB2, fun i j hi hj => hH2 i j (by omega)⟩
    · obtain rfl : L = p := by omega
      go_wp2
      go_ret
      refine ⟨m, rfl, hG, fun a b ha hb => ?_, B1.trans (hB.mono B1.size)⟩
      obtain ⟨i, hi, ei⟩ := thk_of ha (by have := bit_lt hs ha; omega)
      obtain ⟨j, hj, ej⟩ := thk_of hb (by have := bit_lt hs hb; omega)
      have := hH i j (by rw [HLE.out]; exact hi) (by rw [HLE.out]; exact hj)
      rw [ei, ej] at this
      exact this
end Go.Proofs.Ytnchipcpeeofaaa
