/-  -/
import Derived.Test.YtnennilpedediaaDoorSignQ
import Derived.Test.YtnennilpedediaaDoorSword
import Derived.Test.YtnennilpedediaaDoorMadeS
import Derived.BigQuiet
import Derived.Test.YtnennilpedediaaDoorStrMark
import Derived.Test.YtnennilpedediaaDoorFill
import Derived.Deep.RegionHeld3
namespace Go.Proofs.YtnennilpedediaaDoor
open Go.RowKit
set_option linter.unusedVariables false
set_option linter.unusedSimpArgs false

theorem noS {c : UInt8} (h : okS c = false) : ((c.toNat : Nat) : Int) ≠ 48 ∧ ((c.toNat : Nat) : Int) ≠ 43 ∧ ((c.toNat : Nat) : Int) ≠ 45 := by
  have key : ∀ d : UInt8, okS d = true → c ≠ d := fun d hd e => by rw [e, hd] at h; cases h
  have f : ∀ d : UInt8, okS d = true → ((c.toNat : Nat) : Int) ≠ ((d.toNat : Nat) : Int) := fun d hd e => key d hd (UInt8.toNat_inj.1 (by omega))
  exact ⟨f 48 rfl, f 43 rfl, f 45 rfl⟩
set_option maxHeartbeats 1000000 in
theorem sSignsOk_any (u : List UInt8) (w : World) (hn : u.length ≤ 1048576) :
    Calls Tryd.prog 11 #[.string (bs u)] w fun e w' => e = .returned (.bool (okG u)) ∧ w = w' := by
  have hsz := size_bs u
  go_enter Tryd.func11, Tryd.ntmps11
  go_wp2
  go_loopg [3] u.length (fun m i wr => ∃ k : Nat, k ≤ u.length ∧ Hid (m = u.length - k) ∧ i = .int .i64 k ∧ Hid (∀ j, j < k → okS (lt u j) = true) ∧ w = wr)
  case atStart => exact ⟨0, Nat.zero_le _, rfl, rfl, fun j hj => absurd hj (Nat.not_lt_zero _), rfl⟩
  case round =>
    obtain ⟨k, hk, hm, rfl, hH, rfl⟩ := hrel
    by_cases hlt : k < u.length
    · have hg : ∀ h, (bs u)[k]'h = lt u k := fun h => get_bs h
      have hc9 : (lt u k).toNat < 256 := (lt u k).toNat_lt
      cases hc : okS (lt u k)
      · have HE := hide (okG_bad hlt hc)
        obtain ⟨n1, n2, n3⟩ := noS hc
        have b1 : ((((lt u k).toNat : Nat) : Int) == 48) = false := beq_eq_false_iff_ne.2 n1
        have b2 : ((((lt u k).toNat : Nat) : Int) == 43) = false := beq_eq_false_iff_ne.2 n2
        have b3 : ((((lt u k).toNat : Nat) : Int) == 45) = false := beq_eq_false_iff_ne.2 n3
        have c1 : ((((lt u k).toNat : Nat) : Int) != 48) = true := by rw [bne, b1]; rfl
        have c2 : ((((lt u k).toNat : Nat) : Int) != 43) = true := by rw [bne, b2]; rfl
        have c3 : ((((lt u k).toNat : Nat) : Int) != 45) = true := by rw [bne, b3]; rfl
        clear hc
        go_wp2
        go_ret
        exact ⟨ret_bool HE.out.symm, rfl⟩
      · have HC := hide hc
        rcases okS_iff.1 hc with h | h | h
        all_goals
          have hN := congrArg UInt8.toNat h
          simp only [UInt8.reduceToNat] at hN
          clear h hc
          go_wp2
          go_roundg (u.length - (k + 1))
          case measure => go_light; have := hm.out; omega
          case rel => go_light; exact ⟨k + 1, by omega, rfl, by go_num, fun j hj => by
            by_cases e : j = k
            · subst e; exact HC.out
            · exact hH.out j (by omega), rfl⟩
    · obtain rfl : u.length = k := by omega
      have HE := hide (okG_len hH.out)
      go_wp2_with fail
      refine (l1In_any _ _ _ _).mono ?_
      rintro e w' ⟨rfl, rfl⟩
      go_wp2
      go_ret
      rw [HE.out]
      exact ⟨ret_bool (by congr 1 <;> rw [decide_eq_decide] <;> omega), rfl⟩

set_option maxRecDepth 20000 in
set_option maxHeartbeats 4000000 in
theorem sThenOf_any (s t : List UInt8) (w : World) (hn : s.length ≤ 1048576) (hm : t.length ≤ 1048576) :
    Calls Tryd.prog 15 #[.string (bs s), .string (bs t)] w fun e w' => e = .returned (.string (bs (thW s t))) ∧ w = w' := by
  have hsz := size_bs s
  have htz := size_bs t
  cases hcan : canT s t
  · have HE := hide (thW_not hcan)
    go_enter Tryd.func15, Tryd.ntmps15
    go_wp2
    go_loopg [6, 5] 1 (fun g i v wr => i = .int .i64 0 ∧ v = .string (bs []) ∧ w = wr)
    case atStart => exact ⟨rfl, rfl, rfl⟩
    case round =>
      obtain ⟨rfl, rfl, rfl⟩ := hrel
      by_cases h0 : (0 : Int) < (s.length : Int)
      · have h0n : 0 < s.length := by omega
        cases h1 : okG s
        · go_wp2_with fail
          refine (sSignsOk_any s _ hn).mono ?_
          rw [h1]
          rintro e w' ⟨rfl, rfl⟩
          go_wp2
          go_ret
          rw [HE.out]
          exact ⟨rfl, rfl⟩
        · cases h2 : okG t
          · go_wp2_with fail
            refine (sSignsOk_any s _ hn).mono ?_
            rw [h1]
            rintro e w' ⟨rfl, rfl⟩
            go_wp2_with fail
            refine (sSignsOk_any t _ hm).mono ?_
            rw [h2]
            rintro e w' ⟨rfl, rfl⟩
            go_wp2
            go_ret
            rw [HE.out]
            exact ⟨rfl, rfl⟩
          · have hne : ¬ s.length = t.length := fun e => by rw [canT_iff.2 ⟨h1, h2, e⟩] at hcan; cases hcan
            have hnb : ((s.length : Int) == (t.length : Int)) = false := beq_eq_false_iff_ne.2 (by omega)
            clear hcan
            go_wp2_with fail
            refine (sSignsOk_any s _ hn).mono ?_
            rw [h1]
            rintro e w' ⟨rfl, rfl⟩
            go_wp2_with fail
            refine (sSignsOk_any t _ hm).mono ?_
            rw [h2]
            rintro e w' ⟨rfl, rfl⟩
            go_wp2
            go_ret
            rw [HE.out]
            exact ⟨rfl, rfl⟩
      · have h00 : s.length = 0 := by omega
        have h0z : ¬ 0 < s.length := by omega
        go_wp2
        go_ret
        rw [HE.out]
        exact ⟨rfl, rfl⟩
  · have HE := hide (thW_ok hcan)
    obtain ⟨h1, h2, hl⟩ := canT_iff.1 hcan
    have HL := hide hl
    have H1 := hide h1
    have hnb : ((s.length : Int) == (t.length : Int)) = true := beq_iff_eq.2 (by omega)
    have h6 : s.length ≤ 6 := (okG_iff.1 h1).2.2
    have ht6 : t.length ≤ 6 := by omega
    have HM := hide (fun (k : Nat) (hk : k < s.length) => (app_bs _ _).trans (congrArg bs (take_thL hl hk)))
    clear hcan hl
    go_enter Tryd.func15, Tryd.ntmps15
    go_wp2
    go_loopg [6, 5] s.length (fun g i v wr => ∃ k : Nat, k ≤ s.length ∧ Hid (g = s.length - k) ∧ i = .int .i64 k ∧ v = .string (bs ((thL s t).take k)) ∧ w = wr)
    case atStart => exact ⟨0, Nat.zero_le _, rfl, rfl, by rw [List.take_zero]; rfl, rfl⟩
    case round =>
      obtain ⟨k, hk, hg, rfl, rfl, rfl⟩ := hrel
      by_cases hlt : k < s.length
      · have hlt2 : k < t.length := by rw [← HL.out]; exact hlt
        have hgs : ∀ h, (bs s)[k]'h = lt s k := fun h => get_bs h
        have hc9 : (lt s k).toNat < 256 := (lt s k).toNat_lt
        have ha := HM.out k hlt
        have hz1 : (bs ((thL s t).take k)).size = k := by rw [size_bs, List.length_take, len_thL HL.out]; omega
        obtain ⟨V, hV⟩ : ∃ V, V = bs ((thL s t).take k) := ⟨_, rfl⟩
        rw [← hV] at ha hz1 ⊢
        clear hV
        by_cases he : lt s k = 48
        · have hN := congrArg UInt8.toNat he
          simp only [UInt8.reduceToNat] at hN
          rw [show sg2 (lt s k) (lt t k) = lt t k from if_pos he] at ha
          obtain ⟨V2, hV2⟩ : ∃ V2, V2 = bs [lt t k] := ⟨_, rfl⟩
          have hz2 : V2.size = 1 := by rw [hV2, size_bs]; rfl
          have hx := fun w => slice_one Tryd.underlying9 t ((k : Nat) : Int) ((k : Int) + 1) k rfl rfl hlt2 w
          rw [← hV2] at hx ha
          have hadd : ∀ w, (Op.stringOp .add V V2).run Tryd.prog w = .ok (.string (V ++ V2)) w := fun w => run_string_add_sum w _ _ (by rw [hz1, hz2]; omega)
          have HA := hide ha
          clear hV2 he ha
          go_wp2_with fail
          refine (sSignsOk_any s _ hn).mono ?_
          rw [h1]
          rintro e w' ⟨rfl, rfl⟩
          go_wp2_with fail
          refine (sSignsOk_any t _ hm).mono ?_
          rw [h2]
          rintro e w' ⟨rfl, rfl⟩
          go_wp2
          go_roundg (s.length - (k + 1))
          case measure => go_light; have := hg.out; omega
          case rel => go_light; exact ⟨k + 1, hlt, rfl, by go_num, congrArg Value.string HA.out, rfl⟩
        · have hne : ((((lt s k).toNat : Nat) : Int) == 48) = false := beq_eq_false_iff_ne.2 (fun e => he (UInt8.toNat_inj.1 (show (lt s k).toNat = 48 by omega)))
          rw [show sg2 (lt s k) (lt t k) = lt s k from if_neg he] at ha
          obtain ⟨V2, hV2⟩ : ∃ V2, V2 = bs [lt s k] := ⟨_, rfl⟩
          have hz2 : V2.size = 1 := by rw [hV2, size_bs]; rfl
          have hx := fun w => slice_one Tryd.underlying9 s ((k : Nat) : Int) ((k : Int) + 1) k rfl rfl hlt w
          rw [← hV2] at hx ha
          have hadd : ∀ w, (Op.stringOp .add V V2).run Tryd.prog w = .ok (.string (V ++ V2)) w := fun w => run_string_add_sum w _ _ (by rw [hz1, hz2]; omega)
          have HA := hide ha
          clear hV2 he ha
          go_wp2_with fail
          refine (sSignsOk_any s _ hn).mono ?_
          rw [h1]
          rintro e w' ⟨rfl, rfl⟩
          go_wp2_with fail
          refine (sSignsOk_any t _ hm).mono ?_
          rw [h2]
          rintro e w' ⟨rfl, rfl⟩
          go_wp2
          go_roundg (s.length - (k + 1))
          case measure => go_light; have := hg.out; omega
          case rel => go_light; exact ⟨k + 1, hlt, rfl, by go_num, congrArg Value.string HA.out, rfl⟩
      · obtain rfl : s.length = k := by omega
        have HT := hide (show (thL s t).take s.length = thL s t from List.take_of_length_le (by rw [len_thL HL.out]; omega))
        go_wp2
        go_ret
        rw [HE.out, HT.out]
        exact ⟨rfl, rfl⟩

set_option maxRecDepth 20000 in
set_option maxHeartbeats 4000000 in
theorem sSupportOf_any (s : List UInt8) (w : World) (hn : s.length ≤ 1048576) :
    Calls Tryd.prog 18 #[.string (bs s)] w fun e w' => e = .returned (.int .i64 (spW s)) ∧ w = w' := by
  have hsz := size_bs s
  cases h1 : okG s
  · have HE := hide (spW_not h1)
    go_enter Tryd.func18, Tryd.ntmps18
    go_wp2
    go_loopg [4, 3] 1 (fun g i v wr => i = .int .i64 0 ∧ v = .int .i64 0 ∧ w = wr)
    case atStart => exact ⟨rfl, rfl, rfl⟩
    case round =>
      obtain ⟨rfl, rfl, rfl⟩ := hrel
      by_cases h0 : (0 : Int) < (s.length : Int)
      · have h0n : 0 < s.length := by omega
        go_wp2_with fail
        refine (sSignsOk_any s _ hn).mono ?_
        rw [h1]
        rintro e w' ⟨rfl, rfl⟩
        go_wp2_with fail
        refine (sSignsOk_any s _ hn).mono ?_
        rw [h1]
        rintro e w' ⟨rfl, rfl⟩
        go_wp2
        go_ret
        exact ⟨ret_int HE.out.symm, rfl⟩
      · have h0z : ¬ 0 < s.length := by omega
        go_wp2_with fail
        refine (sSignsOk_any s _ hn).mono ?_
        rw [h1]
        rintro e w' ⟨rfl, rfl⟩
        go_wp2
        go_ret
        exact ⟨ret_int HE.out.symm, rfl⟩
  · have HE := hide (spW_ok h1)
    have h6 : s.length ≤ 6 := (okG_iff.1 h1).2.2
    go_enter Tryd.func18, Tryd.ntmps18
    go_wp2
    go_loopg [4, 3] s.length (fun g i v wr => ∃ k : Nat, k ≤ s.length ∧ Hid (g = s.length - k) ∧ i = .int .i64 k ∧ v = .int .i64 ((spK s k : Nat) : Int) ∧ w = wr)
    case atStart => exact ⟨0, Nat.zero_le _, rfl, rfl, rfl, rfl⟩
    case round =>
      obtain ⟨k, hk, hg, rfl, rfl, rfl⟩ := hrel
      by_cases hlt : k < s.length
      · have hgs : ∀ h, (bs s)[k]'h = lt s k := fun h => get_bs h
        have hc9 : (lt s k).toNat < 256 := (lt s k).toNat_lt
        have hk6 : k ≤ 9 := by omega
        obtain ⟨p0, p1⟩ := pow_int hk6
        have hl6 : spK s k < 1024 := Nat.lt_of_lt_of_le (spK_lt s k) (Nat.le_trans (Nat.pow_le_pow_right (n := 2) (by omega) (show k ≤ 10 by omega)) (by decide))
        by_cases he : lt s k = 48
        · have hN := congrArg UInt8.toNat he
          simp only [UInt8.reduceToNat] at hN
          have HK := hide (show spK s (k + 1) = spK s k from by rw [spK, if_pos he, Nat.or_zero])
          clear he
          go_wp2_with fail
          refine (sSignsOk_any s _ hn).mono ?_
          rw [h1]
          rintro e w' ⟨rfl, rfl⟩
          go_wp2
          go_roundg (s.length - (k + 1))
          case measure => go_light; have := hg.out; omega
          case rel => go_light; exact ⟨k + 1, hlt, rfl, by go_num, by rw [HK.out], rfl⟩
        · have hne : ((((lt s k).toNat : Nat) : Int) == 48) = false := beq_eq_false_iff_ne.2 (fun e => he (UInt8.toNat_inj.1 (show (lt s k).toNat = 48 by omega)))
          have hne2 : ((((lt s k).toNat : Nat) : Int) != 48) = true := by rw [bne, hne]; rfl
          have HK := hide (show spK s (k + 1) = spK s k ||| 2 ^ k from by rw [spK, if_neg he])
          have hor := or_pow hl6 hk6
          clear he
          go_wp2_with fail
          refine (sSignsOk_any s _ hn).mono ?_
          rw [h1]
          rintro e w' ⟨rfl, rfl⟩
          go_wp2
          go_roundg (s.length - (k + 1))
          case measure => go_light; have := hg.out; omega
          case rel => go_light; exact ⟨k + 1, hlt, rfl, by go_num, by rw [HK.out], rfl⟩
      · obtain rfl : s.length = k := by omega
        go_wp2_with fail
        refine (sSignsOk_any s _ hn).mono ?_
        rw [h1]
        rintro e w' ⟨rfl, rfl⟩
        go_wp2
        go_ret
        exact ⟨ret_int HE.out.symm, rfl⟩
end Go.Proofs.YtnennilpedediaaDoor

namespace Go.Proofs.YtnennilpedediaaDoor
open Go.RowKit
set_option linter.unusedVariables false
set_option linter.unusedSimpArgs false

end Go.Proofs.YtnennilpedediaaDoor
