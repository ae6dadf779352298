/- The walk of FnThenOf. -/
import Derived.Test.YtnennilpedediaaDoorSsignT
import Derived.Test.YtnennilpedediaaDoorIsignB
import Derived.Test.YtnennilpedediaaDoorDrawSigns
import Derived.Deep.RegionHeld3
namespace Go.Proofs.YtnennilpedediaaDoor
open Go.RowKit
set_option linter.unusedVariables false

set_option maxRecDepth 20000 in
set_option maxHeartbeats 16000000 in
theorem fnThenOf_walk (A : Option Addr) (n c : Nat) (w : World) (h : Bytes w w.heap.size A n) (hc : n ≤ c) (hc2 : c ≤ 9223372036854775807) :
    Calls Tryd.prog 4 #[.slice A n c] w fun e w' => e = .returned (.bool true) ∧ Below w.heap.size w w' := by
  by_cases hn : (1048576 : Int) < (n : Int)
  · go_enter Tryd.func4, Tryd.ntmps4
    go_wp2
    go_ret
    exact ⟨rfl, Below.refl _ _⟩
  · go_enter Tryd.func4, Tryd.ntmps4
    go_wp2_with fail
    refine (drawThenOf_any A n c w h hc hc2).mono ?_
    rintro e w1 ⟨s, t, rfl, hs, ht, B1⟩
    have hn1 : s.length ≤ 1048576 := by omega
    have hn2 : t.length ≤ 1048576 := by omega
    have hsz := size_bs s
    have htz := size_bs t
    cases hcan : canT s t
    · have HE := hide (thW_not hcan)
      have hb0 := toList_bs []
      clear hcan
      go_wp2_with fail
      refine (iThenOf_any s t _ hn1 hn2).mono ?_
      rw [HE.out]
      rintro e w2 ⟨rfl, b2⟩
      have B2 := B1.trans (b2.mono B1.size)
      go_wp2_with fail
      refine (sThenOf_any s t _ hn1 hn2).mono ?_
      rw [HE.out]
      rintro e w_ ⟨rfl, rfl⟩
      go_wp2_with fail
      refine (alive_any _).mono ?_
      rintro e w3 ⟨rfl, b3⟩
      go_wp2
      go_ret
      exact ⟨rfl, B2.trans (b3.mono B2.size)⟩
    · obtain ⟨k1, k2, kl⟩ := canT_iff.1 hcan
      have hx := ok_thL k1 k2 kl
      have HE := hide (thW_ok hcan)
      have hlx := len_thL kl
      have h6 : s.length ≤ 6 := (okG_iff.1 k1).2.2
      have h1 : 1 ≤ s.length := (okG_iff.1 k1).2.1
      have HA := hide (show thW (thL s t) s = thL s t from by rw [thW_ok (canT_iff.2 ⟨hx, k1, hlx⟩), thL_left kl])
      have HB := hide (show thW (thL s t) t = thL s t from by rw [thW_ok (canT_iff.2 ⟨hx, k2, by omega⟩), thL_right kl])
      have hrl : (List.replicate s.length (48 : UInt8)).length = s.length := List.length_replicate
      have HC := hide (show thW (List.replicate s.length 48) s = s from by rw [thW_ok (canT_iff.2 ⟨ok_rep rfl k1, k1, hrl⟩), thL_none])
      have htk : ([48, 48, 48, 48, 48, 48] : List UInt8).take s.length = List.replicate s.length 48 := by
        rw [show ([48, 48, 48, 48, 48, 48] : List UInt8) = List.replicate 6 48 from rfl, List.take_replicate, Nat.min_eq_left h6]
      have hsl := fun w => slice_to (u := [48, 48, 48, 48, 48, 48]) Tryd.underlying9 (s.length : Int) s.length rfl (by simpa using h6) w
      rw [htk] at hsl
      replace hsl : ∀ w, (Instr.slice 9 (.string ⟨#[48, 48, 48, 48, 48, 48]⟩) none (some (.int .i64 (s.length : Int))) none).run Tryd.prog w = .ok (.string (bs (List.replicate s.length 48))) w := hsl
      have HX := hide (spW_ok hx)
      have HS := hide (spW_ok k1)
      have HT := hide (spW_ok k2)
      have l31 : ∀ v k, k ≤ 6 → spK v k < 2 ^ 31 := fun v k hk => Nat.lt_of_lt_of_le (spK_lt v k) (Nat.pow_le_pow_right (by omega) (by omega))
      have hsp := spK_then kl
      have hor : bits .or .i64 ((spK s s.length : Nat) : Int) ((spK t t.length : Nat) : Int) = ((spK (thL s t) (thL s t).length : Nat) : Int) := by
        rw [bits_or31 (l31 s s.length h6) (l31 t t.length (by omega)), hlx, hsp]
      have hne : ¬ (thL s t) = [] := fun e => by rw [e] at hlx; simp at hlx; omega
      have hny : (List.replicate s.length (48 : UInt8)).length ≤ 1048576 := by omega
      have hnx : (thL s t).length ≤ 1048576 := by omega
      obtain ⟨y, hy⟩ : ∃ y, y = List.replicate s.length (48 : UInt8) := ⟨_, rfl⟩
      rw [← hy] at hsl HC hny
      obtain ⟨x, hxe⟩ : ∃ x, x = thL s t := ⟨_, rfl⟩
      rw [← hxe] at HE HA HB HX hor hne hnx
      obtain ⟨px, hpx⟩ : ∃ p : Int, p = ((spK x x.length : Nat) : Int) := ⟨_, rfl⟩
      obtain ⟨ps, hps⟩ : ∃ p : Int, p = ((spK s s.length : Nat) : Int) := ⟨_, rfl⟩
      obtain ⟨pt, hpt⟩ : ∃ p : Int, p = ((spK t t.length : Nat) : Int) := ⟨_, rfl⟩
      rw [← hpx] at HX hor
      rw [← hps] at HS hor
      rw [← hpt] at HT hor
      have hx1 : ((bs x).toList == []) = false := by rw [toList_bs]; simpa using hne
      have hx2 : (bs x).toList.isEmpty = false := by rw [toList_bs]; simpa using hne
      have hx3 : ¬ (bs x).toList = [] := by rw [toList_bs]; exact hne
      clear hy hxe hpx hps hpt hne hlx hsp htk hrl k1 k2 kl hx hcan l31
      go_wp2_with fail
      refine (iThenOf_any s t _ hn1 hn2).mono ?_
      rw [HE.out]
      rintro e w2 ⟨rfl, b2⟩
      have B2 := B1.trans (b2.mono B1.size)
      go_wp2_with fail
      refine (sThenOf_any s t _ hn1 hn2).mono ?_
      rw [HE.out]
      rintro e w_ ⟨rfl, rfl⟩
      go_wp2_with fail
      refine (iThenOf_any x s _ hnx hn1).mono ?_
      rw [HA.out]
      rintro e w3 ⟨rfl, b3⟩
      have B3 := B2.trans (b3.mono B2.size)
      go_wp2_with fail
      refine (iThenOf_any x t _ hnx hn2).mono ?_
      rw [HB.out]
      rintro e w4 ⟨rfl, b4⟩
      have B4 := B3.trans (b4.mono B3.size)
      go_wp2_with fail
      refine (iThenOf_any y s _ hny hn1).mono ?_
      rw [HC.out]
      rintro e w5 ⟨rfl, b5⟩
      have B5 := B4.trans (b5.mono B4.size)
      go_wp2_with fail
      refine (iSupportOf_any x _ hnx).mono ?_
      rw [HX.out]
      rintro e w6 ⟨rfl, b6⟩
      have B6 := B5.trans (b6.mono B5.size)
      go_wp2_with fail
      refine (iSupportOf_any s _ hn1).mono ?_
      rw [HS.out]
      rintro e w7 ⟨rfl, b7⟩
      have B7 := B6.trans (b7.mono B6.size)
      go_wp2_with fail
      refine (iSupportOf_any t _ hn2).mono ?_
      rw [HT.out]
      rintro e w8 ⟨rfl, b8⟩
      have B8 := B7.trans (b8.mono B7.size)
      go_wp2_with fail
      refine (alive_any _).mono ?_
      rintro e w9 ⟨rfl, b9⟩
      go_wp2
      go_ret
      exact ⟨rfl, B8.trans (b9.mono B8.size)⟩

end Go.Proofs.YtnennilpedediaaDoor
