/-  -/
import Derived.Test.YthllbekoidogpaaWordB
import Derived.Laws.Slices
import Derived.Test.YthllbekoidogpaaTab
namespace Go.Proofs.Ythllbekoidogpaa
open Go.RowKit
set_option linter.unusedVariables false

section
variable {P : Program} {t : TypeId} (ht : P.underlying t = some .string) (u : List UInt8)
include ht
theorem slice_lh (i j : Int) (a b : Nat) (hi : i = a) (hj : j = b) (h : a ≤ b) (hb : b ≤ u.length) (w : World) :
    (Instr.slice t (.string (bs u)) (some (.int .i64 i)) (some (.int .i64 j)) none).run P w = .ok (.string (bs ((u.drop a).take (b - a)))) w := by
  subst hi hj
  have hz := size_bs u
  have e := ext_bs u a b
  have h1 : ((b : Int) ≤ ((bs u).size : Int)) := by omega
  have h2 : ((a : Int) ≤ (b : Int)) := by omega
  simp [Instr.slice, run_underlying ht, Instr.sliceBounds, run_sliceBound, *]
theorem slice_to (j : Int) (b : Nat) (hj : j = b) (hb : b ≤ u.length) (w : World) :
    (Instr.slice t (.string (bs u)) none (some (.int .i64 j)) none).run P w = .ok (.string (bs (u.take b))) w := by
  subst hj
  have hz := size_bs u
  rw [run_slice_string_h w t (bs u) ht .i64 _ (by omega) (by omega), Int.toNat_natCast, ext_take]
theorem slice_from (i : Int) (a : Nat) (hi : i = a) (ha : a ≤ u.length) (w : World) :
    (Instr.slice t (.string (bs u)) (some (.int .i64 i)) none none).run P w = .ok (.string (bs (u.drop a))) w := by
  subst hi
  have hz := size_bs u
  rw [run_slice_string_l w t (bs u) ht .i64 _ (by omega) (by omega), Int.toNat_natCast, ext_bs, hz, List.take_of_length_le (by rw [List.length_drop]; omega)]
theorem slice_one (i j : Int) (a : Nat) (hi : i = a) (hj : j = (a : Int) + 1) (h : a < u.length) (w : World) :
    (Instr.slice t (.string (bs u)) (some (.int .i64 i)) (some (.int .i64 j)) none).run P w = .ok (.string (bs [lt u a])) w := by
  have := slice_lh ht u i j a (a + 1) hi (by omega) (by omega) (by omega) w
  rw [this, ← ext_bs, ext_one h]
end
end Go.Proofs.Ythllbekoidogpaa

namespace Go.Proofs.Ythllbekoidogpaa
open Go.RowKit
set_option linter.unusedVariables false


set_option maxHeartbeats 1000000 in
theorem sWordOk_any (u : List UInt8) (w : World) (hn : u.length ≤ 1048576) :
    Calls Try.prog 17 #[.string (bs u)] w fun e w' => e = .returned (.bool (okW u)) ∧ w = w' := by
  have hsz := size_bs u
  go_enter Try.func17, Try.ntmps17
  go_wp2
  go_loopg [3] u.length (fun m i wr => ∃ k : Nat, k ≤ u.length ∧ Hid (m = u.length - k) ∧ i = .int .i64 k ∧ Hid (∀ j, j < k → okC (lt u j) = true) ∧ w = wr)
  case atStart => exact ⟨0, Nat.zero_le _, rfl, rfl, fun j hj => absurd hj (Nat.not_lt_zero _), rfl⟩
  case round =>
    obtain ⟨k, hk, hm, rfl, hH, rfl⟩ := hrel
    by_cases hlt : k < u.length
    · have hg : ∀ h, (bs u)[k]'h = lt u k := fun h => get_bs h
      have hc9 : (lt u k).toNat < 256 := (lt u k).toNat_lt
      go_wp2_with fail
      refine (l1In_any (((lt u k).toNat : Nat) : Int) _ _ _).mono ?_
      rw [← okC_int]
      cases hc : okC (lt u k)
      · have HE := hide (okW_bad hlt hc)
        rintro e w' ⟨rfl, rfl⟩
        go_wp2
        go_ret
        exact ⟨ret_bool HE.out.symm, rfl⟩
      · rintro e w' ⟨rfl, rfl⟩
        go_wp2
        go_roundg (u.length - (k + 1))
        case measure => go_light; have := hm.out; omega
        case rel => go_light; exact ⟨k + 1, by omega, rfl, by go_num, fun j hj => by
          by_cases e : j = k
          · subst e; exact hc
          · exact hH.out j (by omega), rfl⟩
    · obtain rfl : u.length = k := by omega
      have HE := hide (okW_len hH.out)
      go_wp2_with fail
      refine (l1In_any _ _ _ _).mono ?_
      rintro e w' ⟨rfl, rfl⟩
      go_wp2
      go_ret
      rw [HE.out]
      exact ⟨ret_bool (by congr 1 <;> rw [decide_eq_decide] <;> omega), rfl⟩

set_option maxHeartbeats 2000000 in
theorem sLettersIn_any (u : List UInt8) (w : World) (hn : u.length ≤ 1048576) :
    Calls Try.prog 49 #[.string (bs u)] w fun e w' => e = .returned (.int .i64 (letN u)) ∧ w = w' := by
  have hsz := size_bs u
  go_enter Try.func49, Try.ntmps49
  go_wp2
  go_loopg [4, 3] u.length (fun m i s wr => ∃ k : Nat, k ≤ u.length ∧ Hid (m = u.length - k) ∧ i = .int .i64 k ∧ s = .int .i64 (letF u k : Nat) ∧ w = wr)
  case atStart => exact ⟨0, Nat.zero_le _, rfl, rfl, rfl, rfl⟩
  case round =>
    obtain ⟨k, hk, hm, rfl, rfl, rfl⟩ := hrel
    by_cases hlt : k < u.length
    · have hg : ∀ h, (bs u)[k]'h = lt u k := fun h => get_bs h
      have h31 := and31 (lt u k)
      obtain ⟨q, hq⟩ : ∃ q, q = (lt u k).toNat % 32 := ⟨_, rfl⟩
      rw [← hq] at h31
      have hq31 : q ≤ 31 := by omega
      have hd : dlt (lt u k) = 2 ^ q / 2 := by unfold dlt; rw [hq]
      have hp : (2 : Nat) ^ q ≤ 2 ^ 31 := Nat.pow_le_pow_right (by omega) hq31
      have hp0 : 1 ≤ (2 : Nat) ^ q := Nat.one_le_two_pow
      have g1 : (1 : Int) ≤ (2 : Int) ^ q := by
        have e : (2 : Int) ^ q = ((2 ^ q : Nat) : Int) := by simp
        rw [e]; omega
      have g2 : (2 : Int) ^ q ≤ 2147483648 := by
        have e : (2 : Int) ^ q = ((2 ^ q : Nat) : Int) := by simp
        rw [e]; omega
      have g3 : ((2 : Int) ^ q).tdiv 2 = ((dlt (lt u k) : Nat) : Int) := by
        rw [hd, Int.tdiv_eq_ediv_of_nonneg (by omega)]; simp
      have g4 : ((2 : Int) ^ q) / 2 = ((dlt (lt u k) : Nat) : Int) := by rw [hd]; simp
      have HOR := hide (bits_or31 (letF_lt u k) (dlt_lt (lt u k)))
      have hor := HOR.out
      have HX := hide (letF_succ hlt)
      clear hq hd hp hp0
      go_wp2
      go_roundg (u.length - (k + 1))
      case measure => go_light; have := hm.out; omega
      case rel => go_light; exact ⟨k + 1, by omega, rfl, by go_num, by rw [HX.out], rfl⟩
    · obtain rfl : u.length = k := by omega
      cases hw : okW u
      · have HE := hide (letN_not hw)
        go_wp2_with fail
        refine (sWordOk_any u _ hn).mono ?_
        rw [hw]
        rintro e w' ⟨rfl, rfl⟩
        go_wp2
        go_ret
        exact ⟨ret_int HE.out.symm, rfl⟩
      · have HE := hide (letN_ok hw)
        have HL := hide (letF_all hw)
        go_wp2_with fail
        refine (sWordOk_any u _ hn).mono ?_
        rw [hw]
        rintro e w' ⟨rfl, rfl⟩
        go_wp2
        go_ret
        exact ⟨ret_int (by rw [HE.out, HL.out]), rfl⟩

set_option maxRecDepth 20000 in
set_option maxHeartbeats 2000000 in
theorem sRoundOf_any (u : List UInt8) (w : World) (hn : u.length ≤ 1048576) :
    Calls Try.prog 108 #[.string (bs u)] w fun e w' => e = .returned (.string (bs (rndW u))) ∧ w = w' := by
  have hsz := size_bs u
  cases hw : okW u
  · have HE := hide (rndW_not hw)
    go_enter Try.func108, Try.ntmps108
    go_wp2
    go_loopg [4, 3] 1 (fun m i s wr => i = .int .i64 ((u.length : Int) - 1) ∧ s = .string (bs []) ∧ w = wr)
    case atStart => exact ⟨rfl, rfl, rfl⟩
    case round =>
      obtain ⟨rfl, rfl, rfl⟩ := hrel
      by_cases h0 : (u.length : Int) - 1 ≥ 0
      · go_wp2_with fail
        refine (sWordOk_any u _ hn).mono ?_
        rw [hw]
        rintro e w' ⟨rfl, rfl⟩
        go_wp2
        go_ret
        rw [HE.out]
        exact ⟨rfl, rfl⟩
      · go_wp2
        go_ret
        rw [HE.out]
        exact ⟨rfl, rfl⟩
  · have HE := hide (rndW_ok hw)
    go_enter Try.func108, Try.ntmps108
    go_wp2
    go_loopg [4, 3] u.length (fun g i s wr => ∃ m : Nat, m ≤ u.length ∧ Hid (g = m) ∧ i = .int .i64 ((m : Int) - 1) ∧ s = .string (bs (u.drop m).reverse) ∧ w = wr)
    case atStart => exact ⟨u.length, Nat.le_refl _, rfl, rfl, by rw [List.drop_length]; rfl, rfl⟩
    case round =>
      obtain ⟨m, hm, hg, rfl, rfl, rfl⟩ := hrel
      cases m with
      | zero =>
        go_wp2
        go_ret
        rw [HE.out]
        exact ⟨rfl, rfl⟩
      | succ m =>
        have e0 : ((m + 1 : Nat) : Int) - 1 = (m : Int) := by omega
        have hlt : m < u.length := by omega
        have ha := (app_bs (u.drop (m + 1)).reverse [lt u m]).trans (congrArg bs (drop_rev hlt))
        have hz1 : (bs (u.drop (m + 1)).reverse).size = u.length - (m + 1) := by rw [size_bs]; simp
        have hz2 : (bs [lt u m]).size = 1 := by rw [size_bs]; rfl
        rw [e0]
        obtain ⟨V, hV⟩ : ∃ V, V = bs (u.drop (m + 1)).reverse := ⟨_, rfl⟩
        obtain ⟨V2, hV2⟩ : ∃ V2, V2 = bs [lt u m] := ⟨_, rfl⟩
        rw [← hV] at ha hz1 ⊢
        rw [← hV2] at ha hz2
        have hx := fun w => slice_one Try.underlying9 u ((m : Nat) : Int) ((m : Int) + 1) m rfl rfl hlt w
        rw [← hV2] at hx
        have HA := hide ha
        clear hV hV2 e0 ha
        go_wp2_with fail
        refine (sWordOk_any u _ hn).mono ?_
        rw [hw]
        rintro e w' ⟨rfl, rfl⟩
        go_wp2
        go_roundg m
        case measure => go_light; have := hg.out; omega
        case rel => go_light; exact ⟨m, by omega, rfl, by go_num, congrArg Value.string HA.out, rfl⟩

theorem quiet_let {P : Program} {f : FuncId} {args : Array Value} {w : World} {a : Nat} {v : Value} (h : Calls P f args (w.drewN a) fun e w' => e = .returned v ∧ w.drewN a = w') :
    Calls P f args (w.drewN a) fun e w'' => e = .returned v ∧ ∃ m, w'' = w.drewN m :=
  h.mono fun _ _ ⟨he, hm⟩ => ⟨he, a, hm.symm⟩
set_option maxRecDepth 20000 in
set_option maxHeartbeats 4000000 in
theorem sHeadOf_any (u : List UInt8) (w : World) (hn : u.length ≤ 1048576) :
    Calls Try.prog 91 #[.string (bs u)] w fun e w' => e = .returned (.tuple #[.string (bs (hdW u)), .string (bs (hlW u)), .bool (okW u)]) ∧ QD w w' := by
  have hsz := size_bs u
  cases hw : okW u
  · have HE := hide (hdW_not hw)
    have HL := hide (hlW_not hw)
    go_enter Try.func91, Try.ntmps91
    go_wp2_with fail
    refine (sWordOk_any u _ hn).mono ?_
    rw [hw]
    rintro e w' ⟨rfl, rfl⟩
    go_wp2
    refine bodyPost_ret (results_tmp3 rfl _ _ _) rfl ?_
    rw [HE.out, HL.out]
    exact ⟨rfl, QD.refl _⟩
  · have HE := hide (hdW_ok hw)
    have HL := hide (hlW_ok hw)
    have HW := hide hw
    have h1 := (okW_iff.1 hw).2.1
    go_enter Try.func91, Try.ntmps91
    go_wp2_with fail
    refine (sWordOk_any u _ hn).mono ?_
    rw [hw]
    rintro e w' ⟨rfl, rfl⟩
    clear hw
    go_wp2
    go_loopg [6, 5] u.length (fun g i s wr => ∃ k a : Nat, 1 ≤ k ∧ k ≤ u.length ∧ a < k ∧ Hid (g = u.length - k + 1) ∧ i = .int .i64 k ∧ s = .int .i64 a ∧ Hid (HdIs (u.take k) (u.take a) (lt u a)) ∧ QD w wr)
    case atStart => exact ⟨1, 0, by omega, h1, by omega, (show u.length = u.length - 1 + 1 from by omega), rfl, rfl, hd_start h1, QD.refl _⟩
    case round =>
      obtain ⟨k, a, hk1, hk, hak, hg, rfl, rfl, hH, hQ⟩ := hrel
      by_cases hlt : k < u.length
      · have l1 : (u.take (k + 1)).length ≤ 1048576 := by rw [List.length_take]; omega
        have l2 : (u.take k).length ≤ 1048576 := by rw [List.length_take]; omega
        have hx1 := fun w => slice_to Try.underlying9 u ((k : Int) + 1) (k + 1) rfl (by omega) w
        have hx2 := fun w => slice_to Try.underlying9 u (k : Int) k rfl (by omega) w
        have i3 : IntKind.i64.wrap ((k : Int) + 1) = (k : Int) + 1 := IntWalk.i64_in _ ⟨by omega, by omega⟩
        by_cases hm : lt u k ∈ u.take k
        · have HO := hide (let_old HW.out hk1 hlt hm)
          have HN := hide (hd_old hlt hH.out hm)
          obtain ⟨z, hz⟩ : ∃ z, z = letN (u.take k) := ⟨_, rfl⟩
          have C1 := hide (fun W => (show Calls Try.prog 49 #[.string (bs (u.take (k + 1)))] W fun e w' => e = .returned (.int .i64 z) ∧ W = w' from by rw [hz, ← HO.out]; exact sLettersIn_any _ W l1))
          have C2 := hide (fun W => (show Calls Try.prog 49 #[.string (bs (u.take k))] W fun e w' => e = .returned (.int .i64 z) ∧ W = w' from by rw [hz]; exact sLettersIn_any _ W l2))
          clear hm hz
          go_wp2
          go_quiet ((go_at_call 49
                     first
                       | with_reducible exact quiet_let (C1.out _)
                       | with_reducible exact quiet_let (C2.out _)))
          go_wp2
          go_roundg (u.length - (k + 1) + 1)
          case measure => go_light; have := hg.out; omega
          case rel => go_light; exact ⟨k + 1, a, by omega, by omega, by omega, rfl, by go_num, rfl, HN.out, hQ.drewN _⟩
        · have HO := hide (let_new HW.out hk1 hlt hm)
          have HN := hide (hd_new hlt hm)
          clear hm
          obtain ⟨z1, hz1⟩ : ∃ z, z = letN (u.take (k + 1)) := ⟨_, rfl⟩
          obtain ⟨z2, hz2⟩ : ∃ z, z = letN (u.take k) := ⟨_, rfl⟩
          have hne : ¬ z1 = z2 := by rw [hz1, hz2]; exact HO.out
          have C1 := hide (fun W => (show Calls Try.prog 49 #[.string (bs (u.take (k + 1)))] W fun e w' => e = .returned (.int .i64 z1) ∧ W = w' from by rw [hz1]; exact sLettersIn_any _ W l1))
          have C2 := hide (fun W => (show Calls Try.prog 49 #[.string (bs (u.take k))] W fun e w' => e = .returned (.int .i64 z2) ∧ W = w' from by rw [hz2]; exact sLettersIn_any _ W l2))
          clear hz1 hz2
          go_wp2
          go_quiet ((go_at_call 49
                     first
                       | with_reducible exact quiet_let (C1.out _)
                       | with_reducible exact quiet_let (C2.out _)))
          go_wp2
          go_roundg (u.length - (k + 1) + 1)
          case measure => go_light; have := hg.out; omega
          case rel => go_light; exact ⟨k + 1, k, by omega, by omega, by omega, rfl, by go_num, rfl, HN.out, hQ.drewN _⟩
      · obtain rfl : u.length = k := by omega
        have hH2 := hH.out
        rw [List.take_length] at hH2
        have HD := hide hH2.eq
        have hx1 := fun w => slice_to Try.underlying9 u (a : Int) a rfl (by omega) w
        have hx2 := fun w => slice_one Try.underlying9 u (a : Int) ((a : Int) + 1) a rfl rfl (by omega) w
        have i3 : IntKind.i64.wrap ((a : Int) + 1) = (a : Int) + 1 := IntWalk.i64_in _ ⟨by omega, by omega⟩
        clear hH2
        go_wp2
        go_quiet (fail)
        go_wp2
        refine bodyPost_ret (results_tmp3 rfl _ _ _) rfl ?_
        rw [HE.out, HL.out, HD.out.1, HD.out.2]
        exact ⟨rfl, hQ.drewN _⟩

set_option maxHeartbeats 2000000 in
theorem sTailOf_any (u : List UInt8) (w : World) (hn : u.length ≤ 1048576) :
    Calls Try.prog 92 #[.string (bs u)] w fun e w' => e = .returned (.tuple #[.string (bs (llW u)), .string (bs (tlW u)), .bool (okW u)]) ∧ QD w w' := by
  cases hw : okW u
  · have HE := hide (llW_not hw)
    have HL := hide (tlW_not hw)
    go_enter Try.func92, Try.ntmps92
    go_wp2_with fail
    refine (sRoundOf_any u _ hn).mono ?_
    rw [rndW_not hw]
    rintro e w' ⟨rfl, rfl⟩
    go_wp2_with fail
    refine (sHeadOf_any [] _ (by simp)).mono ?_
    rw [show okW [] = false from rfl]
    rintro e w1 ⟨rfl, q1⟩
    go_wp2
    refine bodyPost_ret (results_tmp3 rfl _ _ _) rfl ?_
    rw [HE.out, HL.out]
    exact ⟨rfl, q1⟩
  · have HE := hide (llW_ok hw)
    have HL := hide (tlW_ok hw)
    have HT := hide (rnd_hd hw)
    have hr : okW u.reverse = true := by rw [okW_rev]; exact hw
    have hl : (hd u.reverse).length ≤ 1048576 := by have := hd_lt (okW_ne hr); rw [List.length_reverse] at this; omega
    go_enter Try.func92, Try.ntmps92
    go_wp2_with fail
    refine (sRoundOf_any u _ hn).mono ?_
    rw [rndW_ok hw]
    rintro e w' ⟨rfl, rfl⟩
    go_wp2_with fail
    refine (sHeadOf_any u.reverse _ (by rw [List.length_reverse]; exact hn)).mono ?_
    rw [hr, hdW_ok hr, hlW_ok hr]
    rintro e w1 ⟨rfl, q1⟩
    clear hw hr
    go_wp2_with fail
    refine (sRoundOf_any (hd u.reverse) _ hl).mono ?_
    rw [HT.out]
    rintro e w' ⟨rfl, rfl⟩
    go_wp2
    refine bodyPost_ret (results_tmp3 rfl _ _ _) rfl ?_
    rw [HE.out, HL.out]
    exact ⟨rfl, q1⟩
end Go.Proofs.Ythllbekoidogpaa
