/- The walk of FnApartIn. -/
import Derived.Test.YtmjokeibflbeoaaSsame
import Derived.Test.YtmjokeibflbeoaaIword
import Derived.Test.YtmjokeibflbeoaaIsame
import Derived.Test.YtmjokeibflbeoaaDrawSames
import Derived.Test.YtmjokeibflbeoaaValP
import Derived.Test.YtmjokeibflbeoaaIband
import Derived.Test.YtmjokeibflbeoaaSapart
import Derived.Deep.RegionHeld3
namespace Go.Proofs.Ytmjokeibflbeoaa
open Go.RowKit
set_option linter.unusedVariables false

set_option maxRecDepth 20000 in
set_option maxHeartbeats 8000000 in
theorem fnApartIn_walk (A : Option Addr) (n c : Nat) (w : World) (h : Bytes w w.heap.size A n) (hc : n ≤ c) (hc2 : c ≤ 9223372036854775807) :
    Calls Try.prog 6 #[.slice A n c] w fun e w' => e = .returned (.bool true) ∧ Below w.heap.size w w' := by
  by_cases hn : (1048576 : Int) < (n : Int)
  · go_enter Try.func6, Try.ntmps6
    go_wp2
    go_ret
    exact ⟨rfl, Below.refl _ _⟩
  · go_enter Try.func6, Try.ntmps6
    go_wp2_with fail
    refine (drawApartIn_any A n c w h hc hc2).mono ?_
    rintro e w1 ⟨A1, c1, T, u, v, rfl, B1, M1, hS, hu, hv⟩
    have N1 := hide (Nat.le_refl w1.heap.size)
    have hn1 : u.length ≤ 1048576 := by omega
    have hn2 : v.length ≤ 1048576 := by omega
    have hlT := hS.len
    cases hap : apart T u v with
    | none =>
      have HE := hide (apR_none hap)
      go_wp2_with fail
      refine (iApartIn_any _ _ _ _ T u v w1 M1 N1.out hS hn1 hn2).mono ?_
      rw [HE.out]
      rintro e w2 ⟨rfl, b2⟩
      have B2 := B1.trans (b2.mono B1.size)
      have M2 := M1.below b2 (by have := B1.size; have := N1.out; omega)
      have N2 := hide (Nat.le_trans N1.out b2.size)
      go_wp2_with fail
      refine (sApartIn_any _ _ _ _ T u v w2 M2 N2.out hS hn1 hn2).mono ?_
      rw [HE.out]
      rintro e w3 ⟨rfl, b3⟩
      have B3 := B2.trans (b3.mono B2.size)
      have M3 := M2.below b3 (by have := B2.size; have := N2.out; omega)
      have N3 := hide (Nat.le_trans N2.out b3.size)
      go_wp2_with fail
      refine (alive_any _).mono ?_
      rintro e w4 ⟨rfl, b4⟩
      go_wp2
      go_ret
      exact ⟨rfl, B3.trans (b4.mono B3.size)⟩
    | some k =>
      obtain ⟨hca, hkk, hdf, _⟩ := apart_inv hap
      have HE := hide (apR_some hap)
      have hku : okW u = true := by unfold canA at hca; cases e : okW u with | true => rfl | false => rw [e] at hca; simp at hca
      have hkv : okW v = true := by unfold canA at hca; cases e : okW v with | true => rfl | false => rw [e] at hca; simp at hca
      unfold difA at hdf
      obtain ⟨x, hx⟩ : ∃ x : Int, x = (k : Int) / (T.length : Int) / (T.length : Int) := ⟨_, rfl⟩
      obtain ⟨y, hy⟩ : ∃ y : Int, y = (k : Int) / (T.length : Int) % (T.length : Int) := ⟨_, rfl⟩
      obtain ⟨z, hz⟩ : ∃ z : Int, z = (k : Int) % (T.length : Int) := ⟨_, rfl⟩
      rw [← hx, ← hy, ← hz] at HE hdf
      clear hx hy hz hkk hca
      have HSM := hide (fun (b : bandT T = true) (s : sameB u v = true) => valW_same (a := x) (b := y) (c := z) b (sameB_iff.1 s) hku hkv)
      obtain ⟨n1, hn1e⟩ : ∃ n1, n1 = valW T u x y z := ⟨_, rfl⟩
      obtain ⟨n2, hn2e⟩ : ∃ n2, n2 = valW T v x y z := ⟨_, rfl⟩
      rw [← hn1e, ← hn2e] at hdf HSM
      have H1 := hide hn1e.symm
      have H2 := hide hn2e.symm
      clear hn1e hn2e
      go_wp2_with fail
      refine (iApartIn_any _ _ _ _ T u v w1 M1 N1.out hS hn1 hn2).mono ?_
      rw [HE.out]
      rintro e w2 ⟨rfl, b2⟩
      have B2 := B1.trans (b2.mono B1.size)
      have M2 := M1.below b2 (by have := B1.size; have := N1.out; omega)
      have N2 := hide (Nat.le_trans N1.out b2.size)
      go_wp2_with fail
      refine (sApartIn_any _ _ _ _ T u v w2 M2 N2.out hS hn1 hn2).mono ?_
      rw [HE.out]
      rintro e w3 ⟨rfl, b3⟩
      have B3 := B2.trans (b3.mono B2.size)
      have M3 := M2.below b3 (by have := B2.size; have := N2.out; omega)
      have N3 := hide (Nat.le_trans N2.out b3.size)
      go_wp2_with fail
      refine (iValueIn_any _ _ _ _ T u x y z w3 M3 N3.out hS hn1).mono ?_
      rw [H1.out]
      rintro e w4 ⟨rfl, b4⟩
      have B4 := B3.trans (b4.mono B3.size)
      have M4 := M3.below b4 (by have := B3.size; have := N3.out; omega)
      have N4 := hide (Nat.le_trans N3.out b4.size)
      go_wp2_with fail
      refine (iValueIn_any _ _ _ _ T v x y z w4 M4 N4.out hS hn2).mono ?_
      rw [H2.out]
      rintro e w5 ⟨rfl, b5⟩
      have B5 := B4.trans (b5.mono B4.size)
      have M5 := M4.below b5 (by have := B4.size; have := N4.out; omega)
      have N5 := hide (Nat.le_trans N4.out b5.size)
      cases hb : bandT T
      · go_wp2_with fail
        refine (iBandOk_any _ _ _ _ T _ M5 N5.out hS).mono ?_
        rw [hb]
        rintro e w6 ⟨rfl, b6⟩
        have B6 := B5.trans (b6.mono B5.size)
        have M6 := M5.below b6 (by have := B5.size; have := N5.out; omega)
        have N6 := hide (Nat.le_trans N5.out b6.size)
        go_wp2_with fail
        refine (alive_any _).mono ?_
        rintro e w7 ⟨rfl, b7⟩
        go_wp2
        go_ret
        exact ⟨rfl, B6.trans (b7.mono B6.size)⟩
      · have HS := hide (show (okW u && (okW v && sameB u v)) = false from by
          rw [hku, hkv]
          cases e : sameB u v with
          | false => rfl
          | true => have := HSM.out hb e; rw [this] at hdf; simp at hdf)
        go_wp2_with fail
        refine (iBandOk_any _ _ _ _ T _ M5 N5.out hS).mono ?_
        rw [hb]
        rintro e w6 ⟨rfl, b6⟩
        have B6 := B5.trans (b6.mono B5.size)
        have M6 := M5.below b6 (by have := B5.size; have := N5.out; omega)
        have N6 := hide (Nat.le_trans N5.out b6.size)
        go_wp2_with fail
        refine (iSameWords_any u v _ hn1 hn2).mono ?_
        rw [HS.out]
        rintro e w7 ⟨rfl, b7⟩
        have B7 := B6.trans (b7.mono B6.size)
        go_wp2_with fail
        refine (alive_any _).mono ?_
        rintro e w8 ⟨rfl, b8⟩
        go_wp2
        go_ret
        exact ⟨rfl, B7.trans (b8.mono B7.size)⟩

end Go.Proofs.Ytmjokeibflbeoaa
