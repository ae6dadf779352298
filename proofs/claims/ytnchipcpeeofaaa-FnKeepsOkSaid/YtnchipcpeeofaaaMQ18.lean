/-  -/
import Derived.Deep.RegionHeld3
import Derived.WalkLawsBesides
import Derived.Test.YtnchipcpeeofaaaMQ03
import Derived.Test.YtnchipcpeeofaaaMQ04
namespace Go.Proofs.Ytnchipcpeeofaaa
open Go.RowKit
set_option linter.unusedVariables false


theorem div_in {p n m : Nat} (h1 : 1 ≤ m) (hp : p < n * m) : 0 ≤ (p : Int) / (m : Int) ∧ (p : Int) / (m : Int) < n := by
  rw [div_int]; exact ⟨Int.natCast_nonneg _, Int.ofNat_lt.2 (Nat.div_lt_of_lt_mul (by rw [Nat.mul_comm]; exact hp))⟩
theorem wrap_quo (x y : Int) (hx : 0 ≤ x) (hx2 : x ≤ 1000000) (hy : 1 ≤ y) : IntKind.i64.wrap (x / y) = x / y ∧ IntKind.i64.wrap (x.tdiv y) = x / y ∧ x.tdiv y = x / y ∧ x.tmod y = x % y := by
  have hd : x.tdiv y = x / y := Int.tdiv_eq_ediv_of_nonneg hx
  have h1 : 0 ≤ x / y := Int.ediv_nonneg hx (by omega)
  have h2 : x / y ≤ x := Int.ediv_le_self _ hx
  have e : IntKind.i64.wrap (x / y) = x / y := IntWalk.i64_in _ ⟨by omega, by omega⟩
  exact ⟨e, by rw [hd]; exact e, hd, Int.tmod_eq_emod_of_nonneg hx⟩
/-- p rows of N numbers. -/
structure Rect (T : List (List Int)) (p N : Nat) : Prop where
  len : T.length = p
  row : ∀ i, i < p → (rw_ T i).length = N
theorem Rect.nil_ (N : Nat) : Rect [] 0 N := ⟨rfl, fun i hi => absurd hi (Nat.not_lt_zero _)⟩
theorem Rect.snoc {T : List (List Int)} {p N : Nat} {xs : List Int} (h : Rect T p N) (hx : xs.length = N) : Rect (T ++ [xs]) (p + 1) N := by
  refine ⟨by simp [h.len], fun i hi => ?_⟩
  by_cases e : i < p
  · have : rw_ (T ++ [xs]) i = rw_ T i := by simp [rw_, List.getD, List.getElem?_append_left (by rw [h.len]; exact e : i < T.length)]
    rw [this]; exact h.row i e
  · have ei : i = T.length := by have := h.len; omega
    have : rw_ (T ++ [xs]) i = xs := by subst ei; simp [rw_, List.getD]
    rw [this]; exact hx
theorem Rect.small {T : List (List Int)} {p N : Nat} (h : Rect T p N) (hp : p ≤ 9) (hN : N ≤ 9) : Small T := ⟨by rw [h.len]; omega, fun i hi => by rw [h.len] at hi; rw [h.row i hi]; omega⟩
/-- A call that returns a new table of n rows of n numbers. -/
def NewSq (w : World) (n : Nat) (e : Ending) (w' : World) : Prop := ∃ v T, e = .returned v ∧ Below w.heap.size w w' ∧ ATab w.heap.size w' v T ∧ Rect T n n
/-- What a square table holds in memory at two indices. -/
theorem Mat.sq {w : World} {lo hi : Nat} {A : Option Addr} {T : List (List Int)} {n : Nat} (h : Mat w lo hi A T) (hT : Rect T n n) {x y : Nat} (hx : x < n) (hy : y < n) :
    ∃ b o b2 o2 c z, A = some ⟨b, o, none⟩ ∧ lo ≤ b ∧ b < hi ∧ w.cell? ⟨b, o + x, none⟩ = some (.slice (some ⟨b2, o2, none⟩) n c) ∧ lo ≤ b2 ∧ b2 < hi ∧ w.cell? ⟨b2, o2 + y, none⟩ = some (.int .i64 z) := by
  obtain ⟨b, o, A', c, rfl, h1, h2, hc, hR⟩ := h x (by rw [hT.len]; exact hx)
  have hl := hT.row x hx
  obtain ⟨b2, o2, rfl, h3, h4, hc2⟩ := hR y (by rw [hl]; exact hy)
  rw [hl] at hc
  exact ⟨b, o, b2, o2, c, _, rfl, h1, h2, hc, h3, h4, hc2⟩

set_option maxHeartbeats 2000000 in
theorem left_any (n : Nat) (w : World) (hn : n ≤ 9) :
    Calls Try.prog 66 #[.int .i64 n] w (NewSq w (n)) := by
  have b0 := (Below.refl w.heap.size w).alloc (Nat.le_refl _) (.cells #[] 24)
  go_enter Try.func66, Try.ntmps66
  go_wp2
  go_loopg [4, 3] (n) (fun g i v wr => ∃ (p : Nat) (T : List (List Int)), p ≤ n ∧ g = n - p ∧ i = .int .i64 p ∧ ATab w.heap.size wr v T ∧ Rect T p (n) ∧ Below w.heap.size w wr)
  case atStart => exact ⟨0, [], Nat.zero_le _, rfl, rfl, ATab.made (Nat.le_refl _), Rect.nil_ _, b0⟩
  case round =>
    obtain ⟨p, T, hp, rfl, rfl, hA, hT, hB⟩ := hrel
    clear b0
    by_cases hlt : p < n
    · obtain ⟨wo, rfl⟩ : ∃ wo : World, wo = wr := ⟨_, rfl⟩
      have hlti : (p : Int) < ((n : Nat) : Int) := by first | omega | (have := HC.out; omega)
      go_wp2
      have hb1 := (Below.refl wo.heap.size wo).alloc (Nat.le_refl _) (.cells #[] 3)
      have hr0 := ARow.made (w := wo) (Nat.le_refl _)
      go_loopg [6, 5] (n) (fun g i u wi => ∃ (q : Nat) (xs : List Int), q ≤ n ∧ g = n - q ∧ i = .int .i64 q ∧ ARow wo.heap.size wi u xs ∧ Hid (xs.length = q) ∧ Below wo.heap.size wo wi)
      case atStart => exact ⟨0, [], Nat.zero_le _, rfl, rfl, hr0, rfl, hb1⟩
      case round =>
        clear hb1 hr0
        obtain ⟨q, xs, hq, rfl, rfl, hR, hx, hW⟩ := hrel
        have hwi : w.heap.size ≤ wo.heap.size := hB.size
        by_cases hqt : q < n
        · have hBi := hB.trans (hW.mono hwi)
          have hl' : xs.length ≤ 1048576 := by rw [hx.out]; omega
          have hs := hW.size
          have hqti : (q : Int) < ((n : Nat) : Int) := by first | omega | (have := HC.out; omega)
          go_wp2_with (at_builtin; refine wp_app_int rfl (.tmp 19) (.tmp 21) rfl wo.heap.size _ _ _ _ rfl rfl hR hl' hs ?_; intro v1 w1 hown1 hg1)
          go_roundg (n - (q + 1))
          case measure => go_light; omega
          case rel => go_light; exact ⟨q + 1, _, by omega, rfl, by go_num, hown1, (by show _ = _; simp [hx.out]), hW.trans (hR.belowOf hg1 (Nat.le_refl _) hs)⟩
        · obtain rfl : n = q := by omega
          have hA2 := hA.below hW
          obtain ⟨Ar, cr, rfl, _, _, _⟩ := hR.val
          have hl' : T.length ≤ 1048576 := by rw [hT.len]; omega
          have hs2 : w.heap.size ≤ wr.heap.size := Nat.le_trans hwi hW.size
          have hT2 := hT.snoc hx.out
          go_wp2_with (at_builtin; refine wp_app_row rfl (.tmp 23) (.tmp 25) rfl w.heap.size _ _ _ _ _ rfl rfl hA2 (hR.mono hwi) hl' hs2 ?_; intro v1 w1 hown1 hg1)
          go_roundg (n - (p + 1))
          case measure => go_light; omega
          case rel => go_light; exact ⟨p + 1, _, by omega, rfl, by go_num, hown1, hT2, (hB.trans (hW.mono hwi)).trans (hA2.belowOf hg1 (Nat.le_refl _) hs2)⟩
    · obtain rfl : n = p := by omega
      go_wp2
      go_ret
      exact ⟨_, T, rfl, hB, hA, hT⟩

set_option maxHeartbeats 2000000 in
theorem chain_any (n : Nat) (w : World) (hn : n ≤ 9) :
    Calls Try.prog 67 #[.int .i64 n] w (NewSq w (n)) := by
  have b0 := (Below.refl w.heap.size w).alloc (Nat.le_refl _) (.cells #[] 24)
  go_enter Try.func67, Try.ntmps67
  go_wp2
  go_loopg [4, 3] (n) (fun g i v wr => ∃ (p : Nat) (T : List (List Int)), p ≤ n ∧ g = n - p ∧ i = .int .i64 p ∧ ATab w.heap.size wr v T ∧ Rect T p (n) ∧ Below w.heap.size w wr)
  case atStart => exact ⟨0, [], Nat.zero_le _, rfl, rfl, ATab.made (Nat.le_refl _), Rect.nil_ _, b0⟩
  case round =>
    obtain ⟨p, T, hp, rfl, rfl, hA, hT, hB⟩ := hrel
    clear b0
    by_cases hlt : p < n
    · obtain ⟨wo, rfl⟩ : ∃ wo : World, wo = wr := ⟨_, rfl⟩
      have hlti : (p : Int) < ((n : Nat) : Int) := by first | omega | (have := HC.out; omega)
      go_wp2
      have hb1 := (Below.refl wo.heap.size wo).alloc (Nat.le_refl _) (.cells #[] 3)
      have hr0 := ARow.made (w := wo) (Nat.le_refl _)
      go_loopg [6, 5] (n) (fun g i u wi => ∃ (q : Nat) (xs : List Int), q ≤ n ∧ g = n - q ∧ i = .int .i64 q ∧ ARow wo.heap.size wi u xs ∧ Hid (xs.length = q) ∧ Below wo.heap.size wo wi)
      case atStart => exact ⟨0, [], Nat.zero_le _, rfl, rfl, hr0, rfl, hb1⟩
      case round =>
        clear hb1 hr0
        obtain ⟨q, xs, hq, rfl, rfl, hR, hx, hW⟩ := hrel
        have hwi : w.heap.size ≤ wo.heap.size := hB.size
        by_cases hqt : q < n
        · have hBi := hB.trans (hW.mono hwi)
          have hl' : xs.length ≤ 1048576 := by rw [hx.out]; omega
          have hs := hW.size
          have hqti : (q : Int) < ((n : Nat) : Int) := by first | omega | (have := HC.out; omega)
          go_wp2_with (at_builtin; refine wp_app_int rfl (.tmp 19) (.tmp 23) rfl wo.heap.size _ _ _ _ rfl rfl hR hl' hs ?_; intro v1 w1 hown1 hg1)
          all_goals
            go_roundg (n - (q + 1))
            case measure => go_light; omega
            case rel => go_light; exact ⟨q + 1, _, by omega, rfl, by go_num, hown1, (by show _ = _; simp [hx.out]), hW.trans (hR.belowOf hg1 (Nat.le_refl _) hs)⟩
        · obtain rfl : n = q := by omega
          have hA2 := hA.below hW
          obtain ⟨Ar, cr, rfl, _, _, _⟩ := hR.val
          have hl' : T.length ≤ 1048576 := by rw [hT.len]; omega
          have hs2 : w.heap.size ≤ wr.heap.size := Nat.le_trans hwi hW.size
          have hT2 := hT.snoc hx.out
          go_wp2_with (at_builtin; refine wp_app_row rfl (.tmp 25) (.tmp 27) rfl w.heap.size _ _ _ _ _ rfl rfl hA2 (hR.mono hwi) hl' hs2 ?_; intro v1 w1 hown1 hg1)
          go_roundg (n - (p + 1))
          case measure => go_light; omega
          case rel => go_light; exact ⟨p + 1, _, by omega, rfl, by go_num, hown1, hT2, (hB.trans (hW.mono hwi)).trans (hA2.belowOf hg1 (Nat.le_refl _) hs2)⟩
    · obtain rfl : n = p := by omega
      go_wp2
      go_ret
      exact ⟨_, T, rfl, hB, hA, hT⟩

set_option maxHeartbeats 2000000 in
theorem turn_any (A : Option Addr) (c lo hi n : Nat) (S : List (List Int)) (w : World) (h : Mat w lo hi A S) (hh : hi ≤ w.heap.size) (hS : Rect S n n) (hn : n ≤ 9) :
    Calls Try.prog 69 #[.slice A n c] w (NewSq w (n)) := by
  have b0 := (Below.refl w.heap.size w).alloc (Nat.le_refl _) (.cells #[] 24)
  go_enter Try.func69, Try.ntmps69
  go_wp2
  go_loopg [4, 3] (n) (fun g i v wr => ∃ (p : Nat) (T : List (List Int)), p ≤ n ∧ g = n - p ∧ i = .int .i64 p ∧ ATab w.heap.size wr v T ∧ Rect T p (n) ∧ Below w.heap.size w wr)
  case atStart => exact ⟨0, [], Nat.zero_le _, rfl, rfl, ATab.made (Nat.le_refl _), Rect.nil_ _, b0⟩
  case round =>
    obtain ⟨p, T, hp, rfl, rfl, hA, hT, hB⟩ := hrel
    clear b0
    by_cases hlt : p < n
    · obtain ⟨wo, rfl⟩ : ∃ wo : World, wo = wr := ⟨_, rfl⟩
      have hlti : (p : Int) < ((n : Nat) : Int) := by first | omega | (have := HC.out; omega)
      go_wp2
      have hb1 := (Below.refl wo.heap.size wo).alloc (Nat.le_refl _) (.cells #[] 3)
      have hr0 := ARow.made (w := wo) (Nat.le_refl _)
      go_loopg [6, 5] (n) (fun g i u wi => ∃ (q : Nat) (xs : List Int), q ≤ n ∧ g = n - q ∧ i = .int .i64 q ∧ ARow wo.heap.size wi u xs ∧ Hid (xs.length = q) ∧ Below wo.heap.size wo wi)
      case atStart => exact ⟨0, [], Nat.zero_le _, rfl, rfl, hr0, rfl, hb1⟩
      case round =>
        clear hb1 hr0
        obtain ⟨q, xs, hq, rfl, rfl, hR, hx, hW⟩ := hrel
        have hwi : w.heap.size ≤ wo.heap.size := hB.size
        by_cases hqt : q < n
        · have hBi := hB.trans (hW.mono hwi)
          have hl' : xs.length ≤ 1048576 := by rw [hx.out]; omega
          have hs := hW.size
          have hqti : (q : Int) < ((n : Nat) : Int) := by first | omega | (have := HC.out; omega)
          obtain ⟨b, o, b2, o2, c', z, rfl, _, hbl, hc1, _, hbl2, hc2⟩ := (h.below hBi hh).sq hS (x := q) (y := p) hqt hlt
          go_wp2_with (at_builtin; refine wp_app_int rfl (.tmp 21) (.tmp 29) rfl wo.heap.size _ _ _ _ rfl rfl hR hl' hs ?_; intro v1 w1 hown1 hg1)
          go_roundg (n - (q + 1))
          case measure => go_light; omega
          case rel => go_light; exact ⟨q + 1, _, by omega, rfl, by go_num, hown1, (by show _ = _; simp [hx.out]), hW.trans (hR.belowOf hg1 (Nat.le_refl _) hs)⟩
        · obtain rfl : n = q := by omega
          have hA2 := hA.below hW
          obtain ⟨Ar, cr, rfl, _, _, _⟩ := hR.val
          have hl' : T.length ≤ 1048576 := by rw [hT.len]; omega
          have hs2 : w.heap.size ≤ wr.heap.size := Nat.le_trans hwi hW.size
          have hT2 := hT.snoc hx.out
          go_wp2_with (at_builtin; refine wp_app_row rfl (.tmp 31) (.tmp 33) rfl w.heap.size _ _ _ _ _ rfl rfl hA2 (hR.mono hwi) hl' hs2 ?_; intro v1 w1 hown1 hg1)
          go_roundg (n - (p + 1))
          case measure => go_light; omega
          case rel => go_light; exact ⟨p + 1, _, by omega, rfl, by go_num, hown1, hT2, (hB.trans (hW.mono hwi)).trans (hA2.belowOf hg1 (Nat.le_refl _) hs2)⟩
    · obtain rfl : n = p := by omega
      go_wp2
      go_ret
      exact ⟨_, T, rfl, hB, hA, hT⟩


theorem _root_.Go.RowKit.Below.more {w w1 : World} (h : Below w.heap.size w w1) (o : Obj) : Below w.heap.size w (w1.alloc o) := h.alloc h.size o
/-- A table made of rows that lie in memory. -/
theorem ARow.lit {base : Nat} {w : World} {xs : List Int} (cs : Array Value) (hc : cs = (xs.map (Value.int .i64)).toArray) (hb : base ≤ w.heap.size) (hn : xs.length ≤ 9) : ARow base (w.alloc (.cells cs 3)) (.slice (some ⟨w.heap.size, 0, none⟩) xs.length xs.length) xs := by
  subst hc
  exact ⟨by simp, .inr ⟨w.heap.size, xs.length, _, rfl, hb, heap_alloc_new w _, Nat.le_refl _, by rw [maxLen_is]; omega, by simp, by rw [Nat.mul_one]; exact List.take_of_length_le (by simp)⟩⟩
theorem ARow.alloc_ {base : Nat} {w : World} {v : Value} {xs : List Int} (h : ARow base w v xs) (o : Obj) : ARow base (w.alloc o) v xs := World.ownsRow.alloc h o
theorem ATab.lit {base : Nat} {w : World} {T : List (List Int)} (vs : List Value) (cs : Array Value) (hc : cs = vs.toArray) (hb : base ≤ w.heap.size) (hn : T.length ≤ 9) (hl : vs.length = T.length) (h : ∀ i, i < T.length → ∃ u, vs[i]? = some u ∧ ARow base w u (rw_ T i)) :
    ATab base (w.alloc (.cells cs 24)) (.slice (some ⟨w.heap.size, 0, none⟩) T.length T.length) T := by
  subst hc
  refine ⟨vs, ⟨by omega, .inr ⟨w.heap.size, T.length, _, rfl, hb, heap_alloc_new w _, Nat.le_refl _, by rw [maxLen_is]; omega, by simp [hl], by simp [← hl]⟩⟩, fun i hi => ?_⟩
  obtain ⟨u, hu, hr⟩ := h i hi
  exact ⟨u, hu, hr.alloc_ _⟩

set_option maxHeartbeats 2000000 in
theorem signs_any (w : World) : Calls Try.prog 68 #[] w (NewSq w 3) := by
  go_enter Try.func68, Try.ntmps68
  go_wp2
  go_ret
  refine ⟨_, [[0, 1, 2], [1, 1, 1], [2, 2, 2]], rfl, ((((Below.refl w.heap.size w).more _).more _).more _).more _, ?_, ⟨rfl, fun i hi => ?_⟩⟩
  · have r1 := ((ARow.lit (base := w.heap.size) (w := w) (xs := [0, 1, 2]) #[.int .i64 0, .int .i64 1, .int .i64 2] rfl (Nat.le_refl _) (by decide)).alloc_ (.cells #[.int .i64 1, .int .i64 1, .int .i64 1] 3)).alloc_ (.cells #[.int .i64 2, .int .i64 2, .int .i64 2] 3)
    have r2 := (ARow.lit (base := w.heap.size) (w := w.alloc (.cells #[.int .i64 0, .int .i64 1, .int .i64 2] 3)) (xs := [1, 1, 1]) #[.int .i64 1, .int .i64 1, .int .i64 1] rfl (by simp) (by decide)).alloc_ (.cells #[.int .i64 2, .int .i64 2, .int .i64 2] 3)
    have r3 := ARow.lit (base := w.heap.size) (w := (w.alloc (.cells #[.int .i64 0, .int .i64 1, .int .i64 2] 3)).alloc (.cells #[.int .i64 1, .int .i64 1, .int .i64 1] 3)) (xs := [2, 2, 2]) #[.int .i64 2, .int .i64 2, .int .i64 2] rfl (by simp; omega) (by decide)
    have hsz : w.heap.size ≤ (((w.alloc (.cells #[.int .i64 0, .int .i64 1, .int .i64 2] 3)).alloc (.cells #[.int .i64 1, .int .i64 1, .int .i64 1] 3)).alloc (.cells #[.int .i64 2, .int .i64 2, .int .i64 2] 3)).heap.size := by simp; omega
    have := ATab.lit (base := w.heap.size) (T := [[0, 1, 2], [1, 1, 1], [2, 2, 2]]) [_, _, _] _ rfl hsz (by decide) rfl (fun i hi => by
      match i, hi with
      | 0, _ => exact ⟨_, rfl, r1⟩
      | 1, _ => exact ⟨_, rfl, r2⟩
      | 2, _ => exact ⟨_, rfl, r3⟩)
    simpa using this
  · match i, hi with
    | 0, _ => rfl
    | 1, _ => rfl
    | 2, _ => rfl
set_option maxHeartbeats 2000000 in
theorem both_any (A A2 : Option Addr) (c c2 lo hi lo2 hi2 n m : Nat) (S S2 : List (List Int)) (w : World) (h : Mat w lo hi A S) (hh : hi ≤ w.heap.size) (hS : Rect S n n) (h2 : Mat w lo2 hi2 A2 S2) (hh2 : hi2 ≤ w.heap.size) (hS2 : Rect S2 m m) (hn : n ≤ 9) (hm : m ≤ 9) (hnm : n * m ≤ 9) :
    Calls Try.prog 70 #[.slice A n c, .slice A2 m c2] w (NewSq w (n * m)) := by
  have hnm0 : 0 ≤ (n : Int) * (m : Int) := Int.mul_nonneg (by omega) (by omega)
  have hnm1 : (n : Int) * (m : Int) ≤ 9 := by rw [← Int.natCast_mul]; omega
  have hcast : ((n * m : Nat) : Int) = (n : Int) * (m : Int) := by simp
  have HC := hide hcast
  clear hcast
  have b0 := (Below.refl w.heap.size w).alloc (Nat.le_refl _) (.cells #[] 24)
  go_enter Try.func70, Try.ntmps70
  go_wp2
  go_loopg [7, 5] (n * m) (fun g i v wr => ∃ (p : Nat) (T : List (List Int)), p ≤ n * m ∧ g = n * m - p ∧ i = .int .i64 p ∧ ATab w.heap.size wr v T ∧ Rect T p (n * m) ∧ Below w.heap.size w wr)
  case atStart => exact ⟨0, [], Nat.zero_le _, rfl, rfl, ATab.made (Nat.le_refl _), Rect.nil_ _, b0⟩
  case round =>
    obtain ⟨p, T, hp, rfl, rfl, hA, hT, hB⟩ := hrel
    clear b0
    by_cases hlt : p < n * m
    · obtain ⟨wo, rfl⟩ : ∃ wo : World, wo = wr := ⟨_, rfl⟩
      have hlti : (p : Int) < (n : Int) * (m : Int) := by first | omega | (have := HC.out; omega)
      go_wp2
      have hb1 := (Below.refl wo.heap.size wo).alloc (Nat.le_refl _) (.cells #[] 3)
      have hr0 := ARow.made (w := wo) (Nat.le_refl _)
      go_loopg [9, 8] (n * m) (fun g i u wi => ∃ (q : Nat) (xs : List Int), q ≤ n * m ∧ g = n * m - q ∧ i = .int .i64 q ∧ ARow wo.heap.size wi u xs ∧ Hid (xs.length = q) ∧ Below wo.heap.size wo wi)
      case atStart => exact ⟨0, [], Nat.zero_le _, rfl, rfl, hr0, rfl, hb1⟩
      case round =>
        clear hb1 hr0
        obtain ⟨q, xs, hq, rfl, rfl, hR, hx, hW⟩ := hrel
        have hwi : w.heap.size ≤ wo.heap.size := hB.size
        by_cases hqt : q < n * m
        · have hBi := hB.trans (hW.mono hwi)
          have hl' : xs.length ≤ 1048576 := by rw [hx.out]; omega
          have hs := hW.size
          have hqti : (q : Int) < (n : Int) * (m : Int) := by first | omega | (have := HC.out; omega)
          have hBq := hBi
          have m1 : 1 ≤ m := by rcases Nat.eq_zero_or_pos m with e | e; (· subst e; simp at hlt); exact e
          obtain ⟨dp0, dp1⟩ : 0 ≤ (p : Int) / (m : Int) ∧ (p : Int) / (m : Int) < n := div_in m1 hlt
          obtain ⟨dq0, dq1⟩ : 0 ≤ (q : Int) / (m : Int) ∧ (q : Int) / (m : Int) < n := div_in m1 hqt
          have rp0 : 0 ≤ (p : Int) % (m : Int) := Int.emod_nonneg _ (by omega)
          have rp1 : (p : Int) % (m : Int) < (m : Int) := Int.emod_lt_of_pos _ (by omega)
          have rq0 : 0 ≤ (q : Int) % (m : Int) := Int.emod_nonneg _ (by omega)
          have rq1 : (q : Int) % (m : Int) < (m : Int) := Int.emod_lt_of_pos _ (by omega)
          obtain ⟨b, o, b2, o2, c', z, rfl, _, hbl, hc1, _, hbl2, hc2⟩ := h.sq hS (x := ((p : Int) / (m : Int)).toNat) (y := ((q : Int) / (m : Int)).toNat) (by omega) (by omega)
          obtain ⟨b3, o3, b4, o4, c4, z4, rfl, _, hbl3, hc3, _, hbl4, hc4⟩ := h2.sq hS2 (x := ((p : Int) % (m : Int)).toNat) (y := ((q : Int) % (m : Int)).toNat) (by omega) (by omega)
          obtain ⟨qp1, qp2, qp3, qp4⟩ := wrap_quo (p : Int) (m : Int) (by omega) (by omega) (by omega)
          obtain ⟨qq1, qq2, qq3, qq4⟩ := wrap_quo (q : Int) (m : Int) (by omega) (by omega) (by omega)
          have hm3 : ¬ m = 0 := by omega
          have hm4 : ((m : Int) == 0) = false := beq_eq_false_iff_ne.2 (by omega)
          have MK := hide (fun (W : World) (hW' : Below w.heap.size w W) =>
            (⟨(hW'.cell (p := ⟨b, o + ((p : Int) / (m : Int)).toNat, none⟩) (by show b < _; omega)).trans hc1, (hW'.cell (p := ⟨b2, o2 + ((q : Int) / (m : Int)).toNat, none⟩) (by show b2 < _; omega)).trans hc2,
              (hW'.cell (p := ⟨b3, o3 + ((p : Int) % (m : Int)).toNat, none⟩) (by show b3 < _; omega)).trans hc3, (hW'.cell (p := ⟨b4, o4 + ((q : Int) % (m : Int)).toNat, none⟩) (by show b4 < _; omega)).trans hc4, hW'⟩ :
              W.cell? ⟨b, o + ((p : Int) / (m : Int)).toNat, none⟩ = some (.slice (some ⟨b2, o2, none⟩) n c') ∧ W.cell? ⟨b2, o2 + ((q : Int) / (m : Int)).toNat, none⟩ = some (.int .i64 z) ∧ W.cell? ⟨b3, o3 + ((p : Int) % (m : Int)).toNat, none⟩ = some (.slice (some ⟨b4, o4, none⟩) m c4) ∧ W.cell? ⟨b4, o4 + ((q : Int) % (m : Int)).toNat, none⟩ = some (.int .i64 z4) ∧ Below w.heap.size w W))
          clear hc1 hc2 hc3 hc4
          go_wp2
          go_region_held3 (fun W => W.cell? ⟨b, o + ((p : Int) / (m : Int)).toNat, none⟩ = some (.slice (some ⟨b2, o2, none⟩) n c') ∧ W.cell? ⟨b2, o2 + ((q : Int) / (m : Int)).toNat, none⟩ = some (.int .i64 z) ∧ W.cell? ⟨b3, o3 + ((p : Int) % (m : Int)).toNat, none⟩ = some (.slice (some ⟨b4, o4, none⟩) m c4) ∧ W.cell? ⟨b4, o4 + ((q : Int) % (m : Int)).toNat, none⟩ = some (.int .i64 z4) ∧ Below w.heap.size w W)
            (first
              | exact MK.out _ hBi.drew
              | (go_split_ands
                 exact MK.out _ (Below.more (by assumption) _))
              | (go_split_ands
                 exact MK.out _ (Below.trans hBi (by assumption))))
            (first
              | (refine step_app_drew (by rfl) (.tmp 30) (.tmp 56) (by rfl) wo.heap.size _ xs _ 1 (by rfl) (by rfl) hR hl' hs ?_
                 intro v1 w1 hown1 hg1
                 have hb1 : Below w.heap.size wr w1 := ARow.belowOf hR hg1 hwi (Nat.le_trans hwi hs)))
          go_wp2
          go_roundg (n * m - (q + 1))
          case measure => go_light; omega
          case rel => go_light; exact ⟨q + 1, _, by omega, rfl, by go_num, hown1, (by show _ = _; simp [hx.out]), hW.trans (hR.belowOf hg1 (Nat.le_refl _) hs)⟩
        · obtain rfl : n * m = q := by omega
          have hA2 := hA.below hW
          obtain ⟨Ar, cr, rfl, _, _, _⟩ := hR.val
          have hl' : T.length ≤ 1048576 := by rw [hT.len]; omega
          have hs2 : w.heap.size ≤ wr.heap.size := Nat.le_trans hwi hW.size
          have hT2 := hT.snoc hx.out
          go_wp2_with (at_builtin; refine wp_app_row rfl (.tmp 58) (.tmp 60) rfl w.heap.size _ _ _ _ _ rfl rfl hA2 (hR.mono hwi) hl' hs2 ?_; intro v1 w1 hown1 hg1)
          go_roundg (n * m - (p + 1))
          case measure => go_light; omega
          case rel => go_light; exact ⟨p + 1, _, by omega, rfl, by go_num, hown1, hT2, (hB.trans (hW.mono hwi)).trans (hA2.belowOf hg1 (Nat.le_refl _) hs2)⟩
    · obtain rfl : n * m = p := by omega
      go_wp2
      go_ret
      exact ⟨_, T, rfl, hB, hA, hT⟩

end Go.Proofs.Ytnchipcpeeofaaa

namespace Go.Proofs.Ytnchipcpeeofaaa
open Go.RowKit
set_option linter.unusedVariables false

set_option maxHeartbeats 2000000 in
theorem more_any (A : Option Addr) (c lo hi n : Nat) (S : List (List Int)) (zero : Bool) (w : World) (h : Mat w lo hi A S) (hh : hi ≤ w.heap.size) (hS : Rect S n n) (hn : n ≤ 8) :
    Calls Try.prog 88 #[.slice A n c, .bool zero] w (NewSq w (n + 1)) := by
  have b0 := (Below.refl w.heap.size w).alloc (Nat.le_refl _) (.cells #[] 24)
  go_enter Try.func88, Try.ntmps88
  go_wp2
  go_loopg [7, 6] (n + 1) (fun g i v wr => ∃ (p : Nat) (T : List (List Int)), p ≤ n + 1 ∧ g = n + 1 - p ∧ i = .int .i64 p ∧ ATab w.heap.size wr v T ∧ Rect T p (n + 1) ∧ Below w.heap.size w wr)
  case atStart => exact ⟨0, [], Nat.zero_le _, rfl, rfl, ATab.made (Nat.le_refl _), Rect.nil_ _, b0⟩
  case round =>
    obtain ⟨p, T, hp, rfl, rfl, hA, hT, hB⟩ := hrel
    clear b0
    by_cases hlt : p < n + 1
    · obtain ⟨wo, rfl⟩ : ∃ wo : World, wo = wr := ⟨_, rfl⟩
      have hlti : (p : Int) ≤ (n : Int) := by omega
      go_wp2
      have hb1 := (Below.refl wo.heap.size wo).alloc (Nat.le_refl _) (.cells #[] 3)
      have hr0 := ARow.made (w := wo) (Nat.le_refl _)
      go_loopg [9, 8] (n + 1) (fun g i u wi => ∃ (q : Nat) (xs : List Int), q ≤ n + 1 ∧ g = n + 1 - q ∧ i = .int .i64 q ∧ ARow wo.heap.size wi u xs ∧ Hid (xs.length = q) ∧ Below wo.heap.size wo wi)
      case atStart => exact ⟨0, [], Nat.zero_le _, rfl, rfl, hr0, rfl, hb1⟩
      case round =>
        clear hb1 hr0
        obtain ⟨q, xs, hq, rfl, rfl, hR, hx, hW⟩ := hrel
        have hwi : w.heap.size ≤ wo.heap.size := hB.size
        by_cases hqt : q < n + 1
        · have hBi := hB.trans (hW.mono hwi)
          have hl' : xs.length ≤ 1048576 := by rw [hx.out]; omega
          have hs := hW.size
          have hqti : (q : Int) ≤ (n : Int) := by omega
          by_cases hpn : p < n
          · by_cases hqn : q < n
            · obtain ⟨b, o, b2, o2, c', z, rfl, _, hbl, hc1, _, hbl2, hc2⟩ := (h.below hBi hh).sq hS (x := p) (y := q) hpn hqn
              go_wp2_with (at_builtin; refine wp_app_int rfl (.tmp 60) (.tmp 62) rfl wo.heap.size _ _ _ _ rfl rfl hR hl' hs ?_; intro v1 w1 hown1 hg1)
              go_roundg (n + 1 - (q + 1))
              case measure => go_light; omega
              case rel => go_light; exact ⟨q + 1, _, by omega, rfl, by go_num, hown1, (by show _ = _; simp [hx.out]), hW.trans (hR.belowOf hg1 (Nat.le_refl _) hs)⟩
            · have hpi : (p : Int) < (n : Int) := by omega
              have hqi : ¬ (q : Int) < (n : Int) := by omega
              cases zero
              all_goals
                go_wp2_with (at_builtin; refine wp_app_int rfl (.tmp 60) (.tmp 62) rfl wo.heap.size _ _ _ _ rfl rfl hR hl' hs ?_; intro v1 w1 hown1 hg1)
                go_roundg (n + 1 - (q + 1))
                case measure => go_light; omega
                case rel => go_light; exact ⟨q + 1, _, by omega, rfl, by go_num, hown1, (by show _ = _; simp [hx.out]), hW.trans (hR.belowOf hg1 (Nat.le_refl _) hs)⟩
          · have hpi : ¬ (p : Int) < (n : Int) := by omega
            by_cases hqn : q < n
            · have hqi : (q : Int) < (n : Int) := by omega
              cases zero
              all_goals
                go_wp2_with (at_builtin; refine wp_app_int rfl (.tmp 60) (.tmp 62) rfl wo.heap.size _ _ _ _ rfl rfl hR hl' hs ?_; intro v1 w1 hown1 hg1)
                go_roundg (n + 1 - (q + 1))
                case measure => go_light; omega
                case rel => go_light; exact ⟨q + 1, _, by omega, rfl, by go_num, hown1, (by show _ = _; simp [hx.out]), hW.trans (hR.belowOf hg1 (Nat.le_refl _) hs)⟩
            · have hqi : ¬ (q : Int) < (n : Int) := by omega
              cases zero
              all_goals
                go_wp2_with (at_builtin; refine wp_app_int rfl (.tmp 60) (.tmp 62) rfl wo.heap.size _ _ _ _ rfl rfl hR hl' hs ?_; intro v1 w1 hown1 hg1)
                go_roundg (n + 1 - (q + 1))
                case measure => go_light; omega
                case rel => go_light; exact ⟨q + 1, _, by omega, rfl, by go_num, hown1, (by show _ = _; simp [hx.out]), hW.trans (hR.belowOf hg1 (Nat.le_refl _) hs)⟩
        · obtain rfl : n + 1 = q := by omega
          have hnn : ¬ ((n : Int) + 1 ≤ (n : Int)) := by omega
          have hA2 := hA.below hW
          obtain ⟨Ar, cr, rfl, _, _, _⟩ := hR.val
          have hl' : T.length ≤ 1048576 := by rw [hT.len]; omega
          have hs2 : w.heap.size ≤ wr.heap.size := Nat.le_trans hwi hW.size
          have hT2 := hT.snoc hx.out
          go_wp2_with (at_builtin; refine wp_app_row rfl (.tmp 64) (.tmp 66) rfl w.heap.size _ _ _ _ _ rfl rfl hA2 (hR.mono hwi) hl' hs2 ?_; intro v1 w1 hown1 hg1)
          go_roundg (n + 1 - (p + 1))
          case measure => go_light; omega
          case rel => go_light; exact ⟨p + 1, _, by omega, rfl, by go_num, hown1, hT2, (hB.trans (hW.mono hwi)).trans (hA2.belowOf hg1 (Nat.le_refl _) hs2)⟩
    · obtain rfl : n + 1 = p := by omega
      have hnn : ¬ ((n : Int) + 1 ≤ (n : Int)) := by omega
      go_wp2
      go_ret
      exact ⟨_, T, rfl, hB, hA, hT⟩


theorem ATab.low {base lo hi : Nat} {w w' : World} {v : Value} {T : List (List Int)} (h : ATab base w v T) (hO : Only lo hi w w') (hb : hi ≤ base) : ATab base w' v T := by
  have kr : ∀ {e : TypeId} {size n : Nat} {u : Value} {vs : List Value}, w.ownsRow base e size u n vs → w'.ownsRow base e size u n vs := fun hr => by
    obtain ⟨h1, h2⟩ := hr
    refine ⟨h1, h2.imp id ?_⟩
    rintro ⟨g, cap, cur, hv, hg, hh, r⟩
    exact ⟨g, cap, cur, hv, hg, (hO.block g (Array.getElem?_eq_some_iff.1 hh).1 (.inr (by omega))).trans hh, r⟩
  obtain ⟨vs, h1, h2⟩ := h
  exact ⟨vs, kr h1, fun i hi => by
    obtain ⟨u, hu, hr⟩ := h2 i hi
    exact ⟨u, hu, kr hr⟩⟩
theorem ARow.low {base lo hi : Nat} {w w' : World} {v : Value} {xs : List Int} (h : ARow base w v xs) (hO : Only lo hi w w') (hb : hi ≤ base) : ARow base w' v xs := by
  obtain ⟨h1, h2⟩ := h
  refine ⟨h1, h2.imp id ?_⟩
  rintro ⟨g, cap, cur, hv, hg, hh, r⟩
  exact ⟨g, cap, cur, hv, hg, (hO.block g (Array.getElem?_eq_some_iff.1 hh).1 (.inr (by omega))).trans hh, r⟩
theorem Only.thenBelow {lo hi M : Nat} {a b c : World} (h : Only lo hi a b) (k : Below M b c) (hM : a.heap.size ≤ M) : Only lo hi a c :=
  ⟨k.os.trans h.os, k.tape.trans h.tape, k.output.trans h.output, Nat.le_trans h.size k.size, fun i hi ho => (k.block i (by omega)).trans (h.block i hi ho)⟩
theorem Rd.belowM {w w' : World} {B g P n c M : Nat} {A : Option Addr} (h : Rd w B g P A n c) (hb : Below M w w') (hM : g < M) : Rd w' B g P A n c :=
  ⟨(hb.block g hM).trans h.heap, h.low, h.len, fun j hj => by
    obtain ⟨b, o, z, e, hlt, hc, hz⟩ := h.bytes j hj
    exact ⟨b, o, z, e, hlt, (hb.cell (p := ⟨b, o + j, none⟩) (by show b < _; have := h.low; omega)).trans hc, hz⟩⟩

/-- A call that draws a square table. -/
def DrawSq (w : World) (B g P : Nat) (A : Option Addr) (n c : Nat) (e : Ending) (w' : World) : Prop :=
  ∃ v T m P', e = .returned v ∧ P' ≤ P + 40 ∧ Rd w' B g P' A n c ∧ Only g (g + 1) w w' ∧ ATab w.heap.size w' v T ∧ Rect T m m ∧ 1 ≤ m ∧ m ≤ 9

set_option maxHeartbeats 4000000 in
theorem loose_any (B g P : Nat) (A : Option Addr) (n c : Nat) (w : World) (h : Rd w B g P A n c) (hP : P ≤ 1000) :
    Calls Try.prog 71 #[.pointer (some ⟨g, 0, none⟩)] w (DrawSq w B g P A n c) := by
  have hg := h.lt
  go_enter Try.func71, Try.ntmps71
  go_wp2_with fail
  refine (pick_any B g P A n c 4 w h (by omega) (by omega) (by omega)).mono ?_
  rintro e w1 ⟨v, rfl, hv0, hv1, h1, hO1, hz1⟩
  obtain ⟨k, rfl⟩ : ∃ k : Nat, v = (k : Nat) := ⟨v.toNat, by omega⟩
  have hk : k ≤ 3 := by omega
  have HZ := hide hz1
  clear hz1 hv1
  have s1 := hO1.size
  have b1 := (Below.refl w1.heap.size w1).alloc (Nat.le_refl _) (.cells #[] 24)
  have hO2 := hO1.thenBelow b1 s1
  have h2 := h1.below b1
  have a2 : ATab w.heap.size (w1.alloc (.cells #[] 24)) (.slice (some ⟨w1.heap.size, 0, none⟩) 0 0) [] := ATab.made s1
  go_wp2
  go_loopg [5, 4] (k + 1) (fun gh i v wr => ∃ (p P' : Nat) (T : List (List Int)), p ≤ k + 1 ∧ gh = k + 1 - p ∧ i = .int .i64 p ∧ ATab w.heap.size wr v T ∧ Rect T p (k + 1) ∧ Only g (g + 1) w wr ∧ Rd wr B g P' A n c ∧ P' ≤ P + 1 + 4 * p)
  case atStart => exact ⟨0, P + 1, [], Nat.zero_le _, rfl, rfl, a2, Rect.nil_ _, hO2, h2, by omega⟩
  case round =>
    obtain ⟨p, P', T, hp, rfl, rfl, hA, hT, hO, hR, hPP⟩ := hrel
    clear a2 hO2 h2 b1
    by_cases hlt : p < k + 1
    · obtain ⟨wo, rfl⟩ : ∃ wo : World, wo = wr := ⟨_, rfl⟩
      have hlti : (p : Int) < 1 + (k : Int) := by omega
      have hso := hO.size
      have hb1 := (Below.refl wo.heap.size wo).alloc (Nat.le_refl _) (.cells #[] 3)
      have hr0 := ARow.made (w := wo) (Nat.le_refl _)
      have hRb := hR.below hb1
      have hOb : Only g (g + 1) wo (wo.alloc (.cells #[] 3)) := Only.of_below hb1
      go_wp2
      go_loopg [7, 6] (k + 1) (fun gh i u wi => ∃ (q P2 : Nat) (xs : List Int), q ≤ k + 1 ∧ gh = k + 1 - q ∧ i = .int .i64 q ∧ ARow wo.heap.size wi u xs ∧ Hid (xs.length = q) ∧ Only g (g + 1) wo wi ∧ Rd wi B g P2 A n c ∧ P2 ≤ P' + q)
      case atStart => exact ⟨0, P', [], Nat.zero_le _, rfl, rfl, hr0, rfl, hOb, hRb, by omega⟩
      case round =>
        clear hb1 hr0 hRb hOb
        obtain ⟨q, P2, xs, hq, rfl, rfl, hW, hx, hOw, hRw, hP2⟩ := hrel
        by_cases hqt : q < k + 1
        · have hqti : (q : Int) < 1 + (k : Int) := by omega
          go_wp2_with fail
          refine (pick_any B g P2 A n c _ wr hRw (by omega) (by omega) (by omega)).mono ?_
          rintro e w3 ⟨v3, rfl, hv30, _, h3, hO3, hz3⟩
          have HZ3 := hide hz3
          clear hz3
          have hW3 := hW.low hO3 (by omega)
          have hs3 : wo.heap.size ≤ w3.heap.size := Nat.le_trans hOw.size hO3.size
          have hl' : xs.length ≤ 1048576 := by rw [hx.out]; omega
          go_wp2_with (at_builtin; refine wp_app_int rfl (.tmp 23) (.tmp 27) rfl wo.heap.size _ _ _ _ rfl rfl hW3 hl' hs3 ?_; intro v4 w4 hown4 hg4)
          have hb4 := hW3.belowOf hg4 (Nat.le_refl _) hs3
          go_roundg (k + 1 - (q + 1))
          case measure => go_light; omega
          case rel => go_light; exact ⟨q + 1, P2 + 1, _, by omega, rfl, by go_num, hown4, (by show _ = _; simp [hx.out]), (hOw.trans hO3).thenBelow hb4 (Nat.le_refl _), h3.belowM hb4 (by omega), by omega⟩
        · obtain rfl : k + 1 = q := by omega
          have hnn : ¬ ((k : Int) + 1 < 1 + (k : Int)) := by omega
          have hA2 := hA.low (hOw) (by omega)
          obtain ⟨Ar, cr, rfl, _, _, _⟩ := hW.val
          have hl' : T.length ≤ 1048576 := by rw [hT.len]; omega
          have hs2 : w.heap.size ≤ wr.heap.size := Nat.le_trans hso hOw.size
          have hT2 := hT.snoc hx.out
          go_wp2_with (at_builtin; refine wp_app_row rfl (.tmp 29) (.tmp 31) rfl w.heap.size _ _ _ _ _ rfl rfl hA2 (hW.mono hso) hl' hs2 ?_; intro v1 w5 hown1 hg1)
          have hb5 := hA2.belowOf hg1 (Nat.le_refl _) hs2
          go_roundg (k + 1 - (p + 1))
          case measure => go_light; omega
          case rel => go_light; exact ⟨p + 1, P2, _, by omega, rfl, by go_num, hown1, hT2, (hO.trans hOw).thenBelow hb5 (Nat.le_refl _), hRw.belowM hb5 hg, by omega⟩
    · obtain rfl : k + 1 = p := by omega
      have hnn : ¬ ((k : Int) + 1 < 1 + (k : Int)) := by omega
      go_wp2
      go_ret
      exact ⟨_, T, k + 1, P', rfl, by omega, hR, hO, hA, hT, by omega, by omega⟩
end Go.Proofs.Ytnchipcpeeofaaa
