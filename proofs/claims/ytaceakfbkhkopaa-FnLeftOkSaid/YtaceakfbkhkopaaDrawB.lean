
/- More draws: tables with one thing more, loose tables, rows and sets. -/
import Derived.Test.YtaceakfbkhkopaaDrawT
import Derived.WalkLawsBesides
namespace Go.Proofs.Ytaceakfbkhkopaa
open Go.RowKit
set_option linter.unusedVariables false

set_option maxHeartbeats 2000000 in
theorem more_any (A : Option Addr) (c lo hi n : Nat) (S : List (List Int)) (zero : Bool) (w : World) (h : Mat w lo hi A S) (hh : hi ≤ w.heap.size) (hS : Rect S n n) (hn : n ≤ 8) :
    Calls Try.prog 76 #[.slice A n c, .bool zero] w (NewSq w (n + 1)) := by
  have b0 := (Below.refl w.heap.size w).alloc (Nat.le_refl _) (.cells #[] 28)
  go_enter Try.func76, Try.ntmps76
  go_wp2
  go_loopg [7, 6] (n + 1) (fun g i v wr => ∃ (p : Nat) (T : List (List Int)), p ≤ n + 1 ∧ g = n + 1 - p ∧ i = .int .i64 p ∧ ATab w.heap.size wr v T ∧ Rect T p (n + 1) ∧ Below w.heap.size w wr)
  case atStart => exact ⟨0, [], Nat.zero_le _, rfl, rfl, ATab.made (Nat.le_refl _), Rect.nil_ _, b0⟩
  case round =>
    obtain ⟨p, T, hp, rfl, rfl, hA, hT, hB⟩ := hrel
    clear b0
    by_cases hlt : p < n + 1
    · obtain ⟨wo, rfl⟩ : ∃ wo : World, wo = wr := ⟨_, rfl⟩
      have hlti : (p : Int) ≤ (n : Int) := by omega
      go_wp2
      have hb1 := (Below.refl wo.heap.size wo).alloc (Nat.le_refl _) (.cells #[] 3)
      have hr0 := ARow.made (w := wo) (Nat.le_refl _)
      go_loopg [9, 8] (n + 1) (fun g i u wi => ∃ (q : Nat) (xs : List Int), q ≤ n + 1 ∧ g = n + 1 - q ∧ i = .int .i64 q ∧ ARow wo.heap.size wi u xs ∧ Hid (xs.length = q) ∧ Below wo.heap.size wo wi)
      case atStart => exact ⟨0, [], Nat.zero_le _, rfl, rfl, hr0, rfl, hb1⟩
      case round =>
        clear hb1 hr0
        obtain ⟨q, xs, hq, rfl, rfl, hR, hx, hW⟩ := hrel
        have hwi : w.heap.size ≤ wo.heap.size := hB.size
        by_cases hqt : q < n + 1
        · have hBi := hB.trans (hW.mono hwi)
          have hl' : xs.length ≤ 1048576 := by rw [hx.out]; omega
          have hs := hW.size
          have hqti : (q : Int) ≤ (n : Int) := by omega
          by_cases hpn : p < n
          · by_cases hqn : q < n
            · obtain ⟨b, o, b2, o2, c', z, rfl, _, hbl, hc1, _, hbl2, hc2⟩ := (h.below hBi hh).sq hS (x := p) (y := q) hpn hqn
              go_wp2_with (at_builtin; refine wp_app_int rfl (.tmp 60) (.tmp 62) rfl wo.heap.size _ _ _ _ rfl rfl hR hl' hs ?_; intro v1 w1 hown1 hg1)
              go_roundg (n + 1 - (q + 1))
              case measure => go_light; omega
              case rel => go_light; exact ⟨q + 1, _, by omega, rfl, by go_num, hown1, (by show _ = _; simp [hx.out]), hW.trans (hR.belowOf hg1 (Nat.le_refl _) hs)⟩
            · have hpi : (p : Int) < (n : Int) := by omega
              have hqi : ¬ (q : Int) < (n : Int) := by omega
              cases zero
              all_goals
                go_wp2_with (at_builtin; refine wp_app_int rfl (.tmp 60) (.tmp 62) rfl wo.heap.size _ _ _ _ rfl rfl hR hl' hs ?_; intro v1 w1 hown1 hg1)
                go_roundg (n + 1 - (q + 1))
                case measure => go_light; omega
                case rel => go_light; exact ⟨q + 1, _, by omega, rfl, by go_num, hown1, (by show _ = _; simp [hx.out]), hW.trans (hR.belowOf hg1 (Nat.le_refl _) hs)⟩
          · have hpi : ¬ (p : Int) < (n : Int) := by omega
            by_cases hqn : q < n
            · have hqi : (q : Int) < (n : Int) := by omega
              cases zero
              all_goals
                go_wp2_with (at_builtin; refine wp_app_int rfl (.tmp 60) (.tmp 62) rfl wo.heap.size _ _ _ _ rfl rfl hR hl' hs ?_; intro v1 w1 hown1 hg1)
                go_roundg (n + 1 - (q + 1))
                case measure => go_light; omega
                case rel => go_light; exact ⟨q + 1, _, by omega, rfl, by go_num, hown1, (by show _ = _; simp [hx.out]), hW.trans (hR.belowOf hg1 (Nat.le_refl _) hs)⟩
            · have hqi : ¬ (q : Int) < (n : Int) := by omega
              cases zero
              all_goals
                go_wp2_with (at_builtin; refine wp_app_int rfl (.tmp 60) (.tmp 62) rfl wo.heap.size _ _ _ _ rfl rfl hR hl' hs ?_; intro v1 w1 hown1 hg1)
                go_roundg (n + 1 - (q + 1))
                case measure => go_light; omega
                case rel => go_light; exact ⟨q + 1, _, by omega, rfl, by go_num, hown1, (by show _ = _; simp [hx.out]), hW.trans (hR.belowOf hg1 (Nat.le_refl _) hs)⟩
        · obtain rfl : n + 1 = q := by omega
          have hnn : ¬ ((n : Int) + 1 ≤ (n : Int)) := by omega
          have hA2 := hA.below hW
          obtain ⟨Ar, cr, rfl, _, _, _⟩ := hR.val
          have hl' : T.length ≤ 1048576 := by rw [hT.len]; omega
          have hs2 : w.heap.size ≤ wr.heap.size := Nat.le_trans hwi hW.size
          have hT2 := hT.snoc hx.out
          go_wp2_with (at_builtin; refine wp_app_row rfl (.tmp 64) (.tmp 66) rfl w.heap.size _ _ _ _ _ rfl rfl hA2 (hR.mono hwi) hl' hs2 ?_; intro v1 w1 hown1 hg1)
          go_roundg (n + 1 - (p + 1))
          case measure => go_light; omega
          case rel => go_light; exact ⟨p + 1, _, by omega, rfl, by go_num, hown1, hT2, (hB.trans (hW.mono hwi)).trans (hA2.belowOf hg1 (Nat.le_refl _) hs2)⟩
    · obtain rfl : n + 1 = p := by omega
      have hnn : ¬ ((n : Int) + 1 ≤ (n : Int)) := by omega
      go_wp2
      go_ret
      exact ⟨_, T, rfl, hB, hA, hT⟩


theorem ATab.low {base lo hi : Nat} {w w' : World} {v : Value} {T : List (List Int)} (h : ATab base w v T) (hO : Only lo hi w w') (hb : hi ≤ base) : ATab base w' v T := by
  have kr : ∀ {e : TypeId} {size n : Nat} {u : Value} {vs : List Value}, w.ownsRow base e size u n vs → w'.ownsRow base e size u n vs := fun hr => by
    obtain ⟨h1, h2⟩ := hr
    refine ⟨h1, h2.imp id ?_⟩
    rintro ⟨g, cap, cur, hv, hg, hh, r⟩
    exact ⟨g, cap, cur, hv, hg, (hO.block g (Array.getElem?_eq_some_iff.1 hh).1 (.inr (by omega))).trans hh, r⟩
  obtain ⟨vs, h1, h2⟩ := h
  exact ⟨vs, kr h1, fun i hi => by
    obtain ⟨u, hu, hr⟩ := h2 i hi
    exact ⟨u, hu, kr hr⟩⟩
theorem ARow.low {base lo hi : Nat} {w w' : World} {v : Value} {xs : List Int} (h : ARow base w v xs) (hO : Only lo hi w w') (hb : hi ≤ base) : ARow base w' v xs := by
  obtain ⟨h1, h2⟩ := h
  refine ⟨h1, h2.imp id ?_⟩
  rintro ⟨g, cap, cur, hv, hg, hh, r⟩
  exact ⟨g, cap, cur, hv, hg, (hO.block g (Array.getElem?_eq_some_iff.1 hh).1 (.inr (by omega))).trans hh, r⟩
theorem Only.thenBelow {lo hi M : Nat} {a b c : World} (h : Only lo hi a b) (k : Below M b c) (hM : a.heap.size ≤ M) : Only lo hi a c :=
  ⟨k.os.trans h.os, k.tape.trans h.tape, k.output.trans h.output, Nat.le_trans h.size k.size, fun i hi ho => (k.block i (by omega)).trans (h.block i hi ho)⟩
theorem Rd.belowM {w w' : World} {B g P n c M : Nat} {A : Option Addr} (h : Rd w B g P A n c) (hb : Below M w w') (hM : g < M) : Rd w' B g P A n c :=
  ⟨(hb.block g hM).trans h.heap, h.low, h.len, fun j hj => by
    obtain ⟨b, o, z, e, hlt, hc, hz⟩ := h.bytes j hj
    exact ⟨b, o, z, e, hlt, (hb.cell (p := ⟨b, o + j, none⟩) (by show b < _; have := h.low; omega)).trans hc, hz⟩⟩

/-- A call that draws a square table. -/
def DrawSq (w : World) (B g P : Nat) (A : Option Addr) (n c : Nat) (e : Ending) (w' : World) : Prop :=
  ∃ v T m P', e = .returned v ∧ P' ≤ P + 40 ∧ Rd w' B g P' A n c ∧ Only g (g + 1) w w' ∧ ATab w.heap.size w' v T ∧ Rect T m m ∧ 1 ≤ m ∧ m ≤ 9

set_option maxHeartbeats 4000000 in
theorem loose_any (B g P : Nat) (A : Option Addr) (n c : Nat) (w : World) (h : Rd w B g P A n c) (hP : P ≤ 1000) :
    Calls Try.prog 66 #[.pointer (some ⟨g, 0, none⟩)] w (DrawSq w B g P A n c) := by
  have hg := h.lt
  go_enter Try.func66, Try.ntmps66
  go_wp2_with fail
  refine (pick_any B g P A n c 4 w h (by omega) (by omega) (by omega)).mono ?_
  rintro e w1 ⟨v, rfl, hv0, hv1, h1, hO1, hz1⟩
  obtain ⟨k, rfl⟩ : ∃ k : Nat, v = (k : Nat) := ⟨v.toNat, by omega⟩
  have hk : k ≤ 3 := by omega
  have HZ := hide hz1
  clear hz1 hv1
  have s1 := hO1.size
  have b1 := (Below.refl w1.heap.size w1).alloc (Nat.le_refl _) (.cells #[] 28)
  have hO2 := hO1.thenBelow b1 s1
  have h2 := h1.below b1
  have a2 : ATab w.heap.size (w1.alloc (.cells #[] 28)) (.slice (some ⟨w1.heap.size, 0, none⟩) 0 0) [] := ATab.made s1
  go_wp2
  go_loopg [5, 4] (k + 1) (fun gh i v wr => ∃ (p P' : Nat) (T : List (List Int)), p ≤ k + 1 ∧ gh = k + 1 - p ∧ i = .int .i64 p ∧ ATab w.heap.size wr v T ∧ Rect T p (k + 1) ∧ Only g (g + 1) w wr ∧ Rd wr B g P' A n c ∧ P' ≤ P + 1 + 4 * p)
  case atStart => exact ⟨0, P + 1, [], Nat.zero_le _, rfl, rfl, a2, Rect.nil_ _, hO2, h2, by omega⟩
  case round =>
    obtain ⟨p, P', T, hp, rfl, rfl, hA, hT, hO, hR, hPP⟩ := hrel
    clear a2 hO2 h2 b1
    by_cases hlt : p < k + 1
    · obtain ⟨wo, rfl⟩ : ∃ wo : World, wo = wr := ⟨_, rfl⟩
      have hlti : (p : Int) < 1 + (k : Int) := by omega
      have hso := hO.size
      have hb1 := (Below.refl wo.heap.size wo).alloc (Nat.le_refl _) (.cells #[] 3)
      have hr0 := ARow.made (w := wo) (Nat.le_refl _)
      have hRb := hR.below hb1
      have hOb : Only g (g + 1) wo (wo.alloc (.cells #[] 3)) := Only.of_below hb1
      go_wp2
      go_loopg [7, 6] (k + 1) (fun gh i u wi => ∃ (q P2 : Nat) (xs : List Int), q ≤ k + 1 ∧ gh = k + 1 - q ∧ i = .int .i64 q ∧ ARow wo.heap.size wi u xs ∧ Hid (xs.length = q) ∧ Only g (g + 1) wo wi ∧ Rd wi B g P2 A n c ∧ P2 ≤ P' + q)
      case atStart => exact ⟨0, P', [], Nat.zero_le _, rfl, rfl, hr0, rfl, hOb, hRb, by omega⟩
      case round =>
        clear hb1 hr0 hRb hOb
        obtain ⟨q, P2, xs, hq, rfl, rfl, hW, hx, hOw, hRw, hP2⟩ := hrel
        by_cases hqt : q < k + 1
        · have hqti : (q : Int) < 1 + (k : Int) := by omega
          go_wp2_with fail
          refine (pick_any B g P2 A n c _ wr hRw (by omega) (by omega) (by omega)).mono ?_
          rintro e w3 ⟨v3, rfl, hv30, _, h3, hO3, hz3⟩
          have HZ3 := hide hz3
          clear hz3
          have hW3 := hW.low hO3 (by omega)
          have hs3 : wo.heap.size ≤ w3.heap.size := Nat.le_trans hOw.size hO3.size
          have hl' : xs.length ≤ 1048576 := by rw [hx.out]; omega
          go_wp2_with (at_builtin; refine wp_app_int rfl (.tmp 23) (.tmp 27) rfl wo.heap.size _ _ _ _ rfl rfl hW3 hl' hs3 ?_; intro v4 w4 hown4 hg4)
          have hb4 := hW3.belowOf hg4 (Nat.le_refl _) hs3
          go_roundg (k + 1 - (q + 1))
          case measure => go_light; omega
          case rel => go_light; exact ⟨q + 1, P2 + 1, _, by omega, rfl, by go_num, hown4, (by show _ = _; simp [hx.out]), (hOw.trans hO3).thenBelow hb4 (Nat.le_refl _), h3.belowM hb4 (by omega), by omega⟩
        · obtain rfl : k + 1 = q := by omega
          have hnn : ¬ ((k : Int) + 1 < 1 + (k : Int)) := by omega
          have hA2 := hA.low (hOw) (by omega)
          obtain ⟨Ar, cr, rfl, _, _, _⟩ := hW.val
          have hl' : T.length ≤ 1048576 := by rw [hT.len]; omega
          have hs2 : w.heap.size ≤ wr.heap.size := Nat.le_trans hso hOw.size
          have hT2 := hT.snoc hx.out
          go_wp2_with (at_builtin; refine wp_app_row rfl (.tmp 29) (.tmp 31) rfl w.heap.size _ _ _ _ _ rfl rfl hA2 (hW.mono hso) hl' hs2 ?_; intro v1 w5 hown1 hg1)
          have hb5 := hA2.belowOf hg1 (Nat.le_refl _) hs2
          go_roundg (k + 1 - (p + 1))
          case measure => go_light; omega
          case rel => go_light; exact ⟨p + 1, P2, _, by omega, rfl, by go_num, hown1, hT2, (hO.trans hOw).thenBelow hb5 (Nat.le_refl _), hRw.belowM hb5 hg, by omega⟩
    · obtain rfl : k + 1 = p := by omega
      have hnn : ¬ ((k : Int) + 1 < 1 + (k : Int)) := by omega
      go_wp2
      go_ret
      exact ⟨_, T, k + 1, P', rfl, by omega, hR, hO, hA, hT, by omega, by omega⟩
end Go.Proofs.Ytaceakfbkhkopaa
