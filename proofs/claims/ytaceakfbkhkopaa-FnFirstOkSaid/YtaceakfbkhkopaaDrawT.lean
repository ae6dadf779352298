
/- Tables that the draws make: how many things they have, whatever the numbers. -/
import Derived.Test.YtaceakfbkhkopaaDraw
import Derived.Test.YtaceakfbkhkopaaGrp
import Derived.Deep.RegionHeld3
import Derived.WalkLawsBesides
namespace Go.Proofs.Ytaceakfbkhkopaa
open Go.RowKit
set_option linter.unusedVariables false


theorem div_in {p n m : Nat} (h1 : 1 ≤ m) (hp : p < n * m) : 0 ≤ (p : Int) / (m : Int) ∧ (p : Int) / (m : Int) < n := by
  rw [div_int]; exact ⟨Int.natCast_nonneg _, Int.ofNat_lt.2 (Nat.div_lt_of_lt_mul (by rw [Nat.mul_comm]; exact hp))⟩
theorem wrap_quo (x y : Int) (hx : 0 ≤ x) (hx2 : x ≤ 1000000) (hy : 1 ≤ y) : IntKind.i64.wrap (x / y) = x / y ∧ IntKind.i64.wrap (x.tdiv y) = x / y ∧ x.tdiv y = x / y ∧ x.tmod y = x % y := by
  have hd : x.tdiv y = x / y := Int.tdiv_eq_ediv_of_nonneg hx
  have h1 : 0 ≤ x / y := Int.ediv_nonneg hx (by omega)
  have h2 : x / y ≤ x := Int.ediv_le_self _ hx
  have e : IntKind.i64.wrap (x / y) = x / y := IntWalk.i64_in _ ⟨by omega, by omega⟩
  exact ⟨e, by rw [hd]; exact e, hd, Int.tmod_eq_emod_of_nonneg hx⟩
/-- p rows of N numbers. -/
structure Rect (T : List (List Int)) (p N : Nat) : Prop where
  len : T.length = p
  row : ∀ i, i < p → (rw_ T i).length = N
theorem Rect.nil_ (N : Nat) : Rect [] 0 N := ⟨rfl, fun i hi => absurd hi (Nat.not_lt_zero _)⟩
theorem Rect.snoc {T : List (List Int)} {p N : Nat} {xs : List Int} (h : Rect T p N) (hx : xs.length = N) : Rect (T ++ [xs]) (p + 1) N := by
  refine ⟨by simp [h.len], fun i hi => ?_⟩
  by_cases e : i < p
  · have : rw_ (T ++ [xs]) i = rw_ T i := by simp [rw_, List.getD, List.getElem?_append_left (by rw [h.len]; exact e : i < T.length)]
    rw [this]; exact h.row i e
  · have ei : i = T.length := by have := h.len; omega
    have : rw_ (T ++ [xs]) i = xs := by subst ei; simp [rw_, List.getD]
    rw [this]; exact hx
theorem Rect.small {T : List (List Int)} {p N : Nat} (h : Rect T p N) (hp : p ≤ 9) (hN : N ≤ 9) : Small T := ⟨by rw [h.len]; omega, fun i hi => by rw [h.len] at hi; rw [h.row i hi]; omega⟩
/-- A call that returns a new table of n rows of n numbers. -/
def NewSq (w : World) (n : Nat) (e : Ending) (w' : World) : Prop := ∃ v T, e = .returned v ∧ Below w.heap.size w w' ∧ ATab w.heap.size w' v T ∧ Rect T n n
/-- What a square table holds in memory at two indices. -/
theorem Mat.sq {w : World} {lo hi : Nat} {A : Option Addr} {T : List (List Int)} {n : Nat} (h : Mat w lo hi A T) (hT : Rect T n n) {x y : Nat} (hx : x < n) (hy : y < n) :
    ∃ b o b2 o2 c z, A = some ⟨b, o, none⟩ ∧ lo ≤ b ∧ b < hi ∧ w.cell? ⟨b, o + x, none⟩ = some (.slice (some ⟨b2, o2, none⟩) n c) ∧ lo ≤ b2 ∧ b2 < hi ∧ w.cell? ⟨b2, o2 + y, none⟩ = some (.int .i64 z) := by
  obtain ⟨b, o, A', c, rfl, h1, h2, hc, hR⟩ := h x (by rw [hT.len]; exact hx)
  have hl := hT.row x hx
  obtain ⟨b2, o2, rfl, h3, h4, hc2⟩ := hR y (by rw [hl]; exact hy)
  rw [hl] at hc
  exact ⟨b, o, b2, o2, c, _, rfl, h1, h2, hc, h3, h4, hc2⟩

set_option maxHeartbeats 2000000 in
theorem left_any (n : Nat) (w : World) (hn : n ≤ 9) :
    Calls Try.prog 59 #[.int .i64 n] w (NewSq w (n)) := by
  have b0 := (Below.refl w.heap.size w).alloc (Nat.le_refl _) (.cells #[] 28)
  go_enter Try.func59, Try.ntmps59
  go_wp2
  go_loopg [4, 3] (n) (fun g i v wr => ∃ (p : Nat) (T : List (List Int)), p ≤ n ∧ g = n - p ∧ i = .int .i64 p ∧ ATab w.heap.size wr v T ∧ Rect T p (n) ∧ Below w.heap.size w wr)
  case atStart => exact ⟨0, [], Nat.zero_le _, rfl, rfl, ATab.made (Nat.le_refl _), Rect.nil_ _, b0⟩
  case round =>
    obtain ⟨p, T, hp, rfl, rfl, hA, hT, hB⟩ := hrel
    clear b0
    by_cases hlt : p < n
    · obtain ⟨wo, rfl⟩ : ∃ wo : World, wo = wr := ⟨_, rfl⟩
      have hlti : (p : Int) < ((n : Nat) : Int) := by first | omega | (have := HC.out; omega)
      go_wp2
      have hb1 := (Below.refl wo.heap.size wo).alloc (Nat.le_refl _) (.cells #[] 3)
      have hr0 := ARow.made (w := wo) (Nat.le_refl _)
      go_loopg [6, 5] (n) (fun g i u wi => ∃ (q : Nat) (xs : List Int), q ≤ n ∧ g = n - q ∧ i = .int .i64 q ∧ ARow wo.heap.size wi u xs ∧ Hid (xs.length = q) ∧ Below wo.heap.size wo wi)
      case atStart => exact ⟨0, [], Nat.zero_le _, rfl, rfl, hr0, rfl, hb1⟩
      case round =>
        clear hb1 hr0
        obtain ⟨q, xs, hq, rfl, rfl, hR, hx, hW⟩ := hrel
        have hwi : w.heap.size ≤ wo.heap.size := hB.size
        by_cases hqt : q < n
        · have hBi := hB.trans (hW.mono hwi)
          have hl' : xs.length ≤ 1048576 := by rw [hx.out]; omega
          have hs := hW.size
          have hqti : (q : Int) < ((n : Nat) : Int) := by first | omega | (have := HC.out; omega)
          go_wp2_with (at_builtin; refine wp_app_int rfl (.tmp 19) (.tmp 21) rfl wo.heap.size _ _ _ _ rfl rfl hR hl' hs ?_; intro v1 w1 hown1 hg1)
          go_roundg (n - (q + 1))
          case measure => go_light; omega
          case rel => go_light; exact ⟨q + 1, _, by omega, rfl, by go_num, hown1, (by show _ = _; simp [hx.out]), hW.trans (hR.belowOf hg1 (Nat.le_refl _) hs)⟩
        · obtain rfl : n = q := by omega
          have hA2 := hA.below hW
          obtain ⟨Ar, cr, rfl, _, _, _⟩ := hR.val
          have hl' : T.length ≤ 1048576 := by rw [hT.len]; omega
          have hs2 : w.heap.size ≤ wr.heap.size := Nat.le_trans hwi hW.size
          have hT2 := hT.snoc hx.out
          go_wp2_with (at_builtin; refine wp_app_row rfl (.tmp 23) (.tmp 25) rfl w.heap.size _ _ _ _ _ rfl rfl hA2 (hR.mono hwi) hl' hs2 ?_; intro v1 w1 hown1 hg1)
          go_roundg (n - (p + 1))
          case measure => go_light; omega
          case rel => go_light; exact ⟨p + 1, _, by omega, rfl, by go_num, hown1, hT2, (hB.trans (hW.mono hwi)).trans (hA2.belowOf hg1 (Nat.le_refl _) hs2)⟩
    · obtain rfl : n = p := by omega
      go_wp2
      go_ret
      exact ⟨_, T, rfl, hB, hA, hT⟩

set_option maxHeartbeats 2000000 in
theorem chain_any (n : Nat) (w : World) (hn : n ≤ 9) :
    Calls Try.prog 73 #[.int .i64 n] w (NewSq w (n)) := by
  have b0 := (Below.refl w.heap.size w).alloc (Nat.le_refl _) (.cells #[] 28)
  go_enter Try.func73, Try.ntmps73
  go_wp2
  go_loopg [4, 3] (n) (fun g i v wr => ∃ (p : Nat) (T : List (List Int)), p ≤ n ∧ g = n - p ∧ i = .int .i64 p ∧ ATab w.heap.size wr v T ∧ Rect T p (n) ∧ Below w.heap.size w wr)
  case atStart => exact ⟨0, [], Nat.zero_le _, rfl, rfl, ATab.made (Nat.le_refl _), Rect.nil_ _, b0⟩
  case round =>
    obtain ⟨p, T, hp, rfl, rfl, hA, hT, hB⟩ := hrel
    clear b0
    by_cases hlt : p < n
    · obtain ⟨wo, rfl⟩ : ∃ wo : World, wo = wr := ⟨_, rfl⟩
      have hlti : (p : Int) < ((n : Nat) : Int) := by first | omega | (have := HC.out; omega)
      go_wp2
      have hb1 := (Below.refl wo.heap.size wo).alloc (Nat.le_refl _) (.cells #[] 3)
      have hr0 := ARow.made (w := wo) (Nat.le_refl _)
      go_loopg [6, 5] (n) (fun g i u wi => ∃ (q : Nat) (xs : List Int), q ≤ n ∧ g = n - q ∧ i = .int .i64 q ∧ ARow wo.heap.size wi u xs ∧ Hid (xs.length = q) ∧ Below wo.heap.size wo wi)
      case atStart => exact ⟨0, [], Nat.zero_le _, rfl, rfl, hr0, rfl, hb1⟩
      case round =>
        clear hb1 hr0
        obtain ⟨q, xs, hq, rfl, rfl, hR, hx, hW⟩ := hrel
        have hwi : w.heap.size ≤ wo.heap.size := hB.size
        by_cases hqt : q < n
        · have hBi := hB.trans (hW.mono hwi)
          have hl' : xs.length ≤ 1048576 := by rw [hx.out]; omega
          have hs := hW.size
          have hqti : (q : Int) < ((n : Nat) : Int) := by first | omega | (have := HC.out; omega)
          go_wp2_with (at_builtin; refine wp_app_int rfl (.tmp 19) (.tmp 23) rfl wo.heap.size _ _ _ _ rfl rfl hR hl' hs ?_; intro v1 w1 hown1 hg1)
          all_goals
            go_roundg (n - (q + 1))
            case measure => go_light; omega
            case rel => go_light; exact ⟨q + 1, _, by omega, rfl, by go_num, hown1, (by show _ = _; simp [hx.out]), hW.trans (hR.belowOf hg1 (Nat.le_refl _) hs)⟩
        · obtain rfl : n = q := by omega
          have hA2 := hA.below hW
          obtain ⟨Ar, cr, rfl, _, _, _⟩ := hR.val
          have hl' : T.length ≤ 1048576 := by rw [hT.len]; omega
          have hs2 : w.heap.size ≤ wr.heap.size := Nat.le_trans hwi hW.size
          have hT2 := hT.snoc hx.out
          go_wp2_with (at_builtin; refine wp_app_row rfl (.tmp 25) (.tmp 27) rfl w.heap.size _ _ _ _ _ rfl rfl hA2 (hR.mono hwi) hl' hs2 ?_; intro v1 w1 hown1 hg1)
          go_roundg (n - (p + 1))
          case measure => go_light; omega
          case rel => go_light; exact ⟨p + 1, _, by omega, rfl, by go_num, hown1, hT2, (hB.trans (hW.mono hwi)).trans (hA2.belowOf hg1 (Nat.le_refl _) hs2)⟩
    · obtain rfl : n = p := by omega
      go_wp2
      go_ret
      exact ⟨_, T, rfl, hB, hA, hT⟩

set_option maxHeartbeats 2000000 in
theorem turn_any (A : Option Addr) (c lo hi n : Nat) (S : List (List Int)) (w : World) (h : Mat w lo hi A S) (hh : hi ≤ w.heap.size) (hS : Rect S n n) (hn : n ≤ 9) :
    Calls Try.prog 72 #[.slice A n c] w (NewSq w (n)) := by
  have b0 := (Below.refl w.heap.size w).alloc (Nat.le_refl _) (.cells #[] 28)
  go_enter Try.func72, Try.ntmps72
  go_wp2
  go_loopg [4, 3] (n) (fun g i v wr => ∃ (p : Nat) (T : List (List Int)), p ≤ n ∧ g = n - p ∧ i = .int .i64 p ∧ ATab w.heap.size wr v T ∧ Rect T p (n) ∧ Below w.heap.size w wr)
  case atStart => exact ⟨0, [], Nat.zero_le _, rfl, rfl, ATab.made (Nat.le_refl _), Rect.nil_ _, b0⟩
  case round =>
    obtain ⟨p, T, hp, rfl, rfl, hA, hT, hB⟩ := hrel
    clear b0
    by_cases hlt : p < n
    · obtain ⟨wo, rfl⟩ : ∃ wo : World, wo = wr := ⟨_, rfl⟩
      have hlti : (p : Int) < ((n : Nat) : Int) := by first | omega | (have := HC.out; omega)
      go_wp2
      have hb1 := (Below.refl wo.heap.size wo).alloc (Nat.le_refl _) (.cells #[] 3)
      have hr0 := ARow.made (w := wo) (Nat.le_refl _)
      go_loopg [6, 5] (n) (fun g i u wi => ∃ (q : Nat) (xs : List Int), q ≤ n ∧ g = n - q ∧ i = .int .i64 q ∧ ARow wo.heap.size wi u xs ∧ Hid (xs.length = q) ∧ Below wo.heap.size wo wi)
      case atStart => exact ⟨0, [], Nat.zero_le _, rfl, rfl, hr0, rfl, hb1⟩
      case round =>
        clear hb1 hr0
        obtain ⟨q, xs, hq, rfl, rfl, hR, hx, hW⟩ := hrel
        have hwi : w.heap.size ≤ wo.heap.size := hB.size
        by_cases hqt : q < n
        · have hBi := hB.trans (hW.mono hwi)
          have hl' : xs.length ≤ 1048576 := by rw [hx.out]; omega
          have hs := hW.size
          have hqti : (q : Int) < ((n : Nat) : Int) := by first | omega | (have := HC.out; omega)
          obtain ⟨b, o, b2, o2, c', z, rfl, _, hbl, hc1, _, hbl2, hc2⟩ := (h.below hBi hh).sq hS (x := q) (y := p) hqt hlt
          go_wp2_with (at_builtin; refine wp_app_int rfl (.tmp 21) (.tmp 29) rfl wo.heap.size _ _ _ _ rfl rfl hR hl' hs ?_; intro v1 w1 hown1 hg1)
          go_roundg (n - (q + 1))
          case measure => go_light; omega
          case rel => go_light; exact ⟨q + 1, _, by omega, rfl, by go_num, hown1, (by show _ = _; simp [hx.out]), hW.trans (hR.belowOf hg1 (Nat.le_refl _) hs)⟩
        · obtain rfl : n = q := by omega
          have hA2 := hA.below hW
          obtain ⟨Ar, cr, rfl, _, _, _⟩ := hR.val
          have hl' : T.length ≤ 1048576 := by rw [hT.len]; omega
          have hs2 : w.heap.size ≤ wr.heap.size := Nat.le_trans hwi hW.size
          have hT2 := hT.snoc hx.out
          go_wp2_with (at_builtin; refine wp_app_row rfl (.tmp 31) (.tmp 33) rfl w.heap.size _ _ _ _ _ rfl rfl hA2 (hR.mono hwi) hl' hs2 ?_; intro v1 w1 hown1 hg1)
          go_roundg (n - (p + 1))
          case measure => go_light; omega
          case rel => go_light; exact ⟨p + 1, _, by omega, rfl, by go_num, hown1, hT2, (hB.trans (hW.mono hwi)).trans (hA2.belowOf hg1 (Nat.le_refl _) hs2)⟩
    · obtain rfl : n = p := by omega
      go_wp2
      go_ret
      exact ⟨_, T, rfl, hB, hA, hT⟩


theorem _root_.Go.RowKit.Below.more {w w1 : World} (h : Below w.heap.size w w1) (o : Obj) : Below w.heap.size w (w1.alloc o) := h.alloc h.size o
/-- A table made of rows that lie in memory. -/
theorem ARow.lit {base : Nat} {w : World} {xs : List Int} (cs : Array Value) (hc : cs = (xs.map (Value.int .i64)).toArray) (hb : base ≤ w.heap.size) (hn : xs.length ≤ 9) : ARow base (w.alloc (.cells cs 3)) (.slice (some ⟨w.heap.size, 0, none⟩) xs.length xs.length) xs := by
  subst hc
  exact ⟨by simp, .inr ⟨w.heap.size, xs.length, _, rfl, hb, heap_alloc_new w _, Nat.le_refl _, by rw [maxLen_is]; omega, by simp, by rw [Nat.mul_one]; exact List.take_of_length_le (by simp)⟩⟩
theorem ARow.alloc_ {base : Nat} {w : World} {v : Value} {xs : List Int} (h : ARow base w v xs) (o : Obj) : ARow base (w.alloc o) v xs := World.ownsRow.alloc h o
theorem ATab.lit {base : Nat} {w : World} {T : List (List Int)} (vs : List Value) (cs : Array Value) (hc : cs = vs.toArray) (hb : base ≤ w.heap.size) (hn : T.length ≤ 9) (hl : vs.length = T.length) (h : ∀ i, i < T.length → ∃ u, vs[i]? = some u ∧ ARow base w u (rw_ T i)) :
    ATab base (w.alloc (.cells cs 28)) (.slice (some ⟨w.heap.size, 0, none⟩) T.length T.length) T := by
  subst hc
  refine ⟨vs, ⟨by omega, .inr ⟨w.heap.size, T.length, _, rfl, hb, heap_alloc_new w _, Nat.le_refl _, by rw [maxLen_is]; omega, by simp [hl], by simp [← hl]⟩⟩, fun i hi => ?_⟩
  obtain ⟨u, hu, hr⟩ := h i hi
  exact ⟨u, hu, hr.alloc_ _⟩

set_option maxHeartbeats 2000000 in
theorem signs_any (w : World) : Calls Try.prog 75 #[] w (NewSq w 3) := by
  go_enter Try.func75, Try.ntmps75
  go_wp2
  go_ret
  refine ⟨_, [[0, 1, 2], [1, 1, 1], [2, 2, 2]], rfl, ((((Below.refl w.heap.size w).more _).more _).more _).more _, ?_, ⟨rfl, fun i hi => ?_⟩⟩
  · have r1 := ((ARow.lit (base := w.heap.size) (w := w) (xs := [0, 1, 2]) #[.int .i64 0, .int .i64 1, .int .i64 2] rfl (Nat.le_refl _) (by decide)).alloc_ (.cells #[.int .i64 1, .int .i64 1, .int .i64 1] 3)).alloc_ (.cells #[.int .i64 2, .int .i64 2, .int .i64 2] 3)
    have r2 := (ARow.lit (base := w.heap.size) (w := w.alloc (.cells #[.int .i64 0, .int .i64 1, .int .i64 2] 3)) (xs := [1, 1, 1]) #[.int .i64 1, .int .i64 1, .int .i64 1] rfl (by simp) (by decide)).alloc_ (.cells #[.int .i64 2, .int .i64 2, .int .i64 2] 3)
    have r3 := ARow.lit (base := w.heap.size) (w := (w.alloc (.cells #[.int .i64 0, .int .i64 1, .int .i64 2] 3)).alloc (.cells #[.int .i64 1, .int .i64 1, .int .i64 1] 3)) (xs := [2, 2, 2]) #[.int .i64 2, .int .i64 2, .int .i64 2] rfl (by simp; omega) (by decide)
    have hsz : w.heap.size ≤ (((w.alloc (.cells #[.int .i64 0, .int .i64 1, .int .i64 2] 3)).alloc (.cells #[.int .i64 1, .int .i64 1, .int .i64 1] 3)).alloc (.cells #[.int .i64 2, .int .i64 2, .int .i64 2] 3)).heap.size := by simp; omega
    have := ATab.lit (base := w.heap.size) (T := [[0, 1, 2], [1, 1, 1], [2, 2, 2]]) [_, _, _] _ rfl hsz (by decide) rfl (fun i hi => by
      match i, hi with
      | 0, _ => exact ⟨_, rfl, r1⟩
      | 1, _ => exact ⟨_, rfl, r2⟩
      | 2, _ => exact ⟨_, rfl, r3⟩)
    simpa using this
  · match i, hi with
    | 0, _ => rfl
    | 1, _ => rfl
    | 2, _ => rfl
set_option maxHeartbeats 2000000 in
theorem both_any (A A2 : Option Addr) (c c2 lo hi lo2 hi2 n m : Nat) (S S2 : List (List Int)) (w : World) (h : Mat w lo hi A S) (hh : hi ≤ w.heap.size) (hS : Rect S n n) (h2 : Mat w lo2 hi2 A2 S2) (hh2 : hi2 ≤ w.heap.size) (hS2 : Rect S2 m m) (hn : n ≤ 9) (hm : m ≤ 9) (hnm : n * m ≤ 9) :
    Calls Try.prog 74 #[.slice A n c, .slice A2 m c2] w (NewSq w (n * m)) := by
  have hnm0 : 0 ≤ (n : Int) * (m : Int) := Int.mul_nonneg (by omega) (by omega)
  have hnm1 : (n : Int) * (m : Int) ≤ 9 := by rw [← Int.natCast_mul]; omega
  have hcast : ((n * m : Nat) : Int) = (n : Int) * (m : Int) := by simp
  have HC := hide hcast
  clear hcast
  have b0 := (Below.refl w.heap.size w).alloc (Nat.le_refl _) (.cells #[] 28)
  go_enter Try.func74, Try.ntmps74
  go_wp2
  go_loopg [7, 5] (n * m) (fun g i v wr => ∃ (p : Nat) (T : List (List Int)), p ≤ n * m ∧ g = n * m - p ∧ i = .int .i64 p ∧ ATab w.heap.size wr v T ∧ Rect T p (n * m) ∧ Below w.heap.size w wr)
  case atStart => exact ⟨0, [], Nat.zero_le _, rfl, rfl, ATab.made (Nat.le_refl _), Rect.nil_ _, b0⟩
  case round =>
    obtain ⟨p, T, hp, rfl, rfl, hA, hT, hB⟩ := hrel
    clear b0
    by_cases hlt : p < n * m
    · obtain ⟨wo, rfl⟩ : ∃ wo : World, wo = wr := ⟨_, rfl⟩
      have hlti : (p : Int) < (n : Int) * (m : Int) := by first | omega | (have := HC.out; omega)
      go_wp2
      have hb1 := (Below.refl wo.heap.size wo).alloc (Nat.le_refl _) (.cells #[] 3)
      have hr0 := ARow.made (w := wo) (Nat.le_refl _)
      go_loopg [9, 8] (n * m) (fun g i u wi => ∃ (q : Nat) (xs : List Int), q ≤ n * m ∧ g = n * m - q ∧ i = .int .i64 q ∧ ARow wo.heap.size wi u xs ∧ Hid (xs.length = q) ∧ Below wo.heap.size wo wi)
      case atStart => exact ⟨0, [], Nat.zero_le _, rfl, rfl, hr0, rfl, hb1⟩
      case round =>
        clear hb1 hr0
        obtain ⟨q, xs, hq, rfl, rfl, hR, hx, hW⟩ := hrel
        have hwi : w.heap.size ≤ wo.heap.size := hB.size
        by_cases hqt : q < n * m
        · have hBi := hB.trans (hW.mono hwi)
          have hl' : xs.length ≤ 1048576 := by rw [hx.out]; omega
          have hs := hW.size
          have hqti : (q : Int) < (n : Int) * (m : Int) := by first | omega | (have := HC.out; omega)
          have hBq := hBi
          have m1 : 1 ≤ m := by rcases Nat.eq_zero_or_pos m with e | e; (· subst e; simp at hlt); exact e
          obtain ⟨dp0, dp1⟩ : 0 ≤ (p : Int) / (m : Int) ∧ (p : Int) / (m : Int) < n := div_in m1 hlt
          obtain ⟨dq0, dq1⟩ : 0 ≤ (q : Int) / (m : Int) ∧ (q : Int) / (m : Int) < n := div_in m1 hqt
          have rp0 : 0 ≤ (p : Int) % (m : Int) := Int.emod_nonneg _ (by omega)
          have rp1 : (p : Int) % (m : Int) < (m : Int) := Int.emod_lt_of_pos _ (by omega)
          have rq0 : 0 ≤ (q : Int) % (m : Int) := Int.emod_nonneg _ (by omega)
          have rq1 : (q : Int) % (m : Int) < (m : Int) := Int.emod_lt_of_pos _ (by omega)
          obtain ⟨b, o, b2, o2, c', z, rfl, _, hbl, hc1, _, hbl2, hc2⟩ := h.sq hS (x := ((p : Int) / (m : Int)).toNat) (y := ((q : Int) / (m : Int)).toNat) (by omega) (by omega)
          obtain ⟨b3, o3, b4, o4, c4, z4, rfl, _, hbl3, hc3, _, hbl4, hc4⟩ := h2.sq hS2 (x := ((p : Int) % (m : Int)).toNat) (y := ((q : Int) % (m : Int)).toNat) (by omega) (by omega)
          obtain ⟨qp1, qp2, qp3, qp4⟩ := wrap_quo (p : Int) (m : Int) (by omega) (by omega) (by omega)
          obtain ⟨qq1, qq2, qq3, qq4⟩ := wrap_quo (q : Int) (m : Int) (by omega) (by omega) (by omega)
          have hm3 : ¬ m = 0 := by omega
          have hm4 : ((m : Int) == 0) = false := beq_eq_false_iff_ne.2 (by omega)
          have MK := hide (fun (W : World) (hW' : Below w.heap.size w W) =>
            (⟨(hW'.cell (p := ⟨b, o + ((p : Int) / (m : Int)).toNat, none⟩) (by show b < _; omega)).trans hc1, (hW'.cell (p := ⟨b2, o2 + ((q : Int) / (m : Int)).toNat, none⟩) (by show b2 < _; omega)).trans hc2,
              (hW'.cell (p := ⟨b3, o3 + ((p : Int) % (m : Int)).toNat, none⟩) (by show b3 < _; omega)).trans hc3, (hW'.cell (p := ⟨b4, o4 + ((q : Int) % (m : Int)).toNat, none⟩) (by show b4 < _; omega)).trans hc4, hW'⟩ :
              W.cell? ⟨b, o + ((p : Int) / (m : Int)).toNat, none⟩ = some (.slice (some ⟨b2, o2, none⟩) n c') ∧ W.cell? ⟨b2, o2 + ((q : Int) / (m : Int)).toNat, none⟩ = some (.int .i64 z) ∧ W.cell? ⟨b3, o3 + ((p : Int) % (m : Int)).toNat, none⟩ = some (.slice (some ⟨b4, o4, none⟩) m c4) ∧ W.cell? ⟨b4, o4 + ((q : Int) % (m : Int)).toNat, none⟩ = some (.int .i64 z4) ∧ Below w.heap.size w W))
          clear hc1 hc2 hc3 hc4
          go_wp2
          go_region_held3 (fun W => W.cell? ⟨b, o + ((p : Int) / (m : Int)).toNat, none⟩ = some (.slice (some ⟨b2, o2, none⟩) n c') ∧ W.cell? ⟨b2, o2 + ((q : Int) / (m : Int)).toNat, none⟩ = some (.int .i64 z) ∧ W.cell? ⟨b3, o3 + ((p : Int) % (m : Int)).toNat, none⟩ = some (.slice (some ⟨b4, o4, none⟩) m c4) ∧ W.cell? ⟨b4, o4 + ((q : Int) % (m : Int)).toNat, none⟩ = some (.int .i64 z4) ∧ Below w.heap.size w W)
            (first
              | exact MK.out _ hBi.drew
              | (go_split_ands
                 exact MK.out _ (Below.more (by assumption) _))
              | (go_split_ands
                 exact MK.out _ (Below.trans hBi (by assumption))))
            (first
              | (refine step_app_drew (by rfl) (.tmp 30) (.tmp 56) (by rfl) wo.heap.size _ xs _ 1 (by rfl) (by rfl) hR hl' hs ?_
                 intro v1 w1 hown1 hg1
                 have hb1 : Below w.heap.size wr w1 := ARow.belowOf hR hg1 hwi (Nat.le_trans hwi hs)))
          go_wp2
          go_roundg (n * m - (q + 1))
          case measure => go_light; omega
          case rel => go_light; exact ⟨q + 1, _, by omega, rfl, by go_num, hown1, (by show _ = _; simp [hx.out]), hW.trans (hR.belowOf hg1 (Nat.le_refl _) hs)⟩
        · obtain rfl : n * m = q := by omega
          have hA2 := hA.below hW
          obtain ⟨Ar, cr, rfl, _, _, _⟩ := hR.val
          have hl' : T.length ≤ 1048576 := by rw [hT.len]; omega
          have hs2 : w.heap.size ≤ wr.heap.size := Nat.le_trans hwi hW.size
          have hT2 := hT.snoc hx.out
          go_wp2_with (at_builtin; refine wp_app_row rfl (.tmp 58) (.tmp 60) rfl w.heap.size _ _ _ _ _ rfl rfl hA2 (hR.mono hwi) hl' hs2 ?_; intro v1 w1 hown1 hg1)
          go_roundg (n * m - (p + 1))
          case measure => go_light; omega
          case rel => go_light; exact ⟨p + 1, _, by omega, rfl, by go_num, hown1, hT2, (hB.trans (hW.mono hwi)).trans (hA2.belowOf hg1 (Nat.le_refl _) hs2)⟩
    · obtain rfl : n * m = p := by omega
      go_wp2
      go_ret
      exact ⟨_, T, rfl, hB, hA, hT⟩

end Go.Proofs.Ytaceakfbkhkopaa
