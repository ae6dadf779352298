/- The walk of FnSupportOf. -/
import Derived.Test.YtnennilpedediaaDoorSsignT
import Derived.Test.YtnennilpedediaaDoorIsignB
import Derived.Test.YtnennilpedediaaDoorDrawSigns
import Derived.Deep.RegionHeld3
namespace Go.Proofs.YtnennilpedediaaDoor
open Go.RowKit
set_option linter.unusedVariables false

set_option maxRecDepth 20000 in
set_option maxHeartbeats 16000000 in
theorem fnSupportOf_walk (A : Option Addr) (n c : Nat) (w : World) (h : Bytes w w.heap.size A n) (hc : n ≤ c) (hc2 : c ≤ 9223372036854775807) :
    Calls Tryd.prog 5 #[.slice A n c] w fun e w' => e = .returned (.bool true) ∧ Below w.heap.size w w' := by
  by_cases hn : (1048576 : Int) < (n : Int)
  · go_enter Tryd.func5, Tryd.ntmps5
    go_wp2
    go_ret
    exact ⟨rfl, Below.refl _ _⟩
  · go_enter Tryd.func5, Tryd.ntmps5
    go_wp2_with fail
    refine (drawSupportOf_any A n c w h hc hc2).mono ?_
    rintro e w1 ⟨s, rfl, hs, B1⟩
    have hn1 : s.length ≤ 1048576 := by omega
    have hsz := size_bs s
    cases hok : okG s
    · have HE := hide (spW_not hok)
      clear hok
      go_wp2_with fail
      refine (iSupportOf_any s _ hn1).mono ?_
      rw [HE.out]
      rintro e w2 ⟨rfl, b2⟩
      have B2 := B1.trans (b2.mono B1.size)
      go_wp2_with fail
      refine (sSupportOf_any s _ hn1).mono ?_
      rw [HE.out]
      rintro e w_ ⟨rfl, rfl⟩
      go_wp2_with fail
      refine (alive_any _).mono ?_
      rintro e w3 ⟨rfl, b3⟩
      go_wp2
      go_ret
      exact ⟨rfl, B2.trans (b3.mono B2.size)⟩
    · have HE := hide (spW_ok hok)
      have h6 : s.length ≤ 6 := (okG_iff.1 hok).2.2
      have hk9 : s.length ≤ 9 := by omega
      obtain ⟨p0, p1⟩ := pow_int hk9
      have hlt := spK_lt s s.length
      have hfull : (((spK s s.length : Nat) : Int) == (2 : Int) ^ s.length - 1) = fuS s := by
        rw [← spK_full]
        have e : (2 : Int) ^ s.length = ((2 ^ s.length : Nat) : Int) := by simp
        have h1 : 1 ≤ 2 ^ s.length := Nat.one_le_two_pow
        rw [e, Bool.eq_iff_iff, beq_iff_eq, decide_eq_true_iff]
        omega
      have hkp : (List.replicate s.length (43 : UInt8)).length = s.length := List.length_replicate
      have Hp := hide (show thW s (List.replicate s.length 43) = thL s (List.replicate s.length 43) from thW_ok (canT_iff.2 ⟨hok, ok_rep rfl hok, hkp.symm⟩))
      have htp : ([43, 43, 43, 43, 43, 43] : List UInt8).take s.length = List.replicate s.length 43 := by
        rw [show ([43, 43, 43, 43, 43, 43] : List UInt8) = List.replicate 6 43 from rfl, List.take_replicate, Nat.min_eq_left h6]
      have hsp := fun w => slice_to (u := [43, 43, 43, 43, 43, 43]) Tryd.underlying9 (s.length : Int) s.length rfl (by simpa using h6) w
      rw [htp] at hsp
      replace hsp : ∀ w, (Instr.slice 9 (.string ⟨#[43, 43, 43, 43, 43, 43]⟩) none (some (.int .i64 (s.length : Int))) none).run Tryd.prog w = .ok (.string (bs (List.replicate s.length 43))) w := hsp
      have hep := eq_bs (thL s (List.replicate s.length 43)) s
      rw [thL_full (by decide)] at hep
      have hnp : (List.replicate s.length (43 : UInt8)).length ≤ 1048576 := by omega
      obtain ⟨yp, hyp⟩ : ∃ y, y = List.replicate s.length (43 : UInt8) := ⟨_, rfl⟩
      rw [← hyp] at hsp Hp hnp hep
      obtain ⟨zp, hzp⟩ : ∃ z, z = thL s yp := ⟨_, rfl⟩
      rw [← hzp] at Hp hep
      clear hyp hzp htp hkp
      have hkm : (List.replicate s.length (45 : UInt8)).length = s.length := List.length_replicate
      have Hm := hide (show thW s (List.replicate s.length 45) = thL s (List.replicate s.length 45) from thW_ok (canT_iff.2 ⟨hok, ok_rep rfl hok, hkm.symm⟩))
      have htm : ([45, 45, 45, 45, 45, 45] : List UInt8).take s.length = List.replicate s.length 45 := by
        rw [show ([45, 45, 45, 45, 45, 45] : List UInt8) = List.replicate 6 45 from rfl, List.take_replicate, Nat.min_eq_left h6]
      have hsm := fun w => slice_to (u := [45, 45, 45, 45, 45, 45]) Tryd.underlying9 (s.length : Int) s.length rfl (by simpa using h6) w
      rw [htm] at hsm
      replace hsm : ∀ w, (Instr.slice 9 (.string ⟨#[45, 45, 45, 45, 45, 45]⟩) none (some (.int .i64 (s.length : Int))) none).run Tryd.prog w = .ok (.string (bs (List.replicate s.length 45))) w := hsm
      have hem := eq_bs (thL s (List.replicate s.length 45)) s
      rw [thL_full (by decide)] at hem
      have hnm : (List.replicate s.length (45 : UInt8)).length ≤ 1048576 := by omega
      obtain ⟨ym, hym⟩ : ∃ y, y = List.replicate s.length (45 : UInt8) := ⟨_, rfl⟩
      rw [← hym] at hsm Hm hnm hem
      obtain ⟨zm, hzm⟩ : ∃ z, z = thL s ym := ⟨_, rfl⟩
      rw [← hzm] at Hm hem
      clear hym hzm htm hkm
      have h0n : ¬ ((spK s s.length : Nat) : Int) < 0 := by omega
      obtain ⟨q, hq⟩ : ∃ q : Int, q = ((spK s s.length : Nat) : Int) := ⟨_, rfl⟩
      rw [← hq] at HE h0n hfull
      have hw2 : IntKind.i64.wrap ((2 : Int) ^ s.length) = (2 : Int) ^ s.length := IntWalk.i64_in _ ⟨by omega, by omega⟩
      have hw3 : IntKind.i64.wrap ((2 : Int) ^ s.length - 1) = (2 : Int) ^ s.length - 1 := IntWalk.i64_in _ ⟨by omega, by omega⟩
      clear hq hlt hok
      cases hf : fuS s
      all_goals
        rw [hf] at hep hem hfull
        clear hf
        go_wp2_with fail
        refine (iSupportOf_any s _ hn1).mono ?_
        rw [HE.out]
        rintro e w2 ⟨rfl, b2⟩
        have B2 := B1.trans (b2.mono B1.size)
        go_wp2_with fail
        refine (sSupportOf_any s _ hn1).mono ?_
        rw [HE.out]
        rintro e w_ ⟨rfl, rfl⟩
        go_wp2_with fail
        refine (iThenOf_any s yp _ hn1 hnp).mono ?_
        rw [Hp.out]
        rintro e w3 ⟨rfl, b3⟩
        have B3 := B2.trans (b3.mono B2.size)
        go_wp2_with fail
        refine (iThenOf_any s ym _ hn1 hnm).mono ?_
        rw [Hm.out]
        rintro e w4 ⟨rfl, b4⟩
        have B4 := B3.trans (b4.mono B3.size)
        go_wp2
        go_ret
        exact ⟨rfl, B4⟩

end Go.Proofs.YtnennilpedediaaDoor
