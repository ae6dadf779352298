/-  -/
import Derived.Test.YthllbekoidogpaaAlw02
import Derived.Test.YthllbekoidogpaaAlw01
import Derived.Deep.RegionHeld3
import Derived.Deep.AppendLies
namespace Go.Proofs.Ythllbekoidogpaa
open Go.RowKit
set_option linter.unusedVariables false


set_option maxHeartbeats 1000000 in
theorem sWordOk_any (u : List UInt8) (w : World) (hn : u.length ≤ 1048576) :
    Calls Try.prog 17 #[.string (bs u)] w fun e w' => e = .returned (.bool (okW u)) ∧ w = w' := by
  have hsz := size_bs u
  go_enter Try.func17, Try.ntmps17
  go_wp2
  go_loopg [3] u.length (fun m i wr => ∃ k : Nat, k ≤ u.length ∧ Hid (m = u.length - k) ∧ i = .int .i64 k ∧ Hid (∀ j, j < k → okC (lt u j) = true) ∧ w = wr)
  case atStart => exact ⟨0, Nat.zero_le _, rfl, rfl, fun j hj => absurd hj (Nat.not_lt_zero _), rfl⟩
  case round =>
    obtain ⟨k, hk, hm, rfl, hH, rfl⟩ := hrel
    by_cases hlt : k < u.length
    · have hg : ∀ h, (bs u)[k]'h = lt u k := fun h => get_bs h
      have hc9 : (lt u k).toNat < 256 := (lt u k).toNat_lt
      go_wp2_with fail
      refine (l1In_any (((lt u k).toNat : Nat) : Int) _ _ _).mono ?_
      rw [← okC_int]
      cases hc : okC (lt u k)
      · have HE := hide (okW_bad hlt hc)
        rintro e w' ⟨rfl, rfl⟩
        go_wp2
        go_ret
        exact ⟨ret_bool HE.out.symm, rfl⟩
      · rintro e w' ⟨rfl, rfl⟩
        go_wp2
        go_roundg (u.length - (k + 1))
        case measure => go_light; have := hm.out; omega
        case rel => go_light; exact ⟨k + 1, by omega, rfl, by go_num, fun j hj => by
          by_cases e : j = k
          · subst e; exact hc
          · exact hH.out j (by omega), rfl⟩
    · obtain rfl : u.length = k := by omega
      have HE := hide (okW_len hH.out)
      go_wp2_with fail
      refine (l1In_any _ _ _ _).mono ?_
      rintro e w' ⟨rfl, rfl⟩
      go_wp2
      go_ret
      rw [HE.out]
      exact ⟨ret_bool (by congr 1 <;> rw [decide_eq_decide] <;> omega), rfl⟩

set_option maxHeartbeats 2000000 in
theorem sLettersIn_any (u : List UInt8) (w : World) (hn : u.length ≤ 1048576) :
    Calls Try.prog 49 #[.string (bs u)] w fun e w' => e = .returned (.int .i64 (letN u)) ∧ w = w' := by
  have hsz := size_bs u
  go_enter Try.func49, Try.ntmps49
  go_wp2
  go_loopg [4, 3] u.length (fun m i s wr => ∃ k : Nat, k ≤ u.length ∧ Hid (m = u.length - k) ∧ i = .int .i64 k ∧ s = .int .i64 (letF u k : Nat) ∧ w = wr)
  case atStart => exact ⟨0, Nat.zero_le _, rfl, rfl, rfl, rfl⟩
  case round =>
    obtain ⟨k, hk, hm, rfl, rfl, rfl⟩ := hrel
    by_cases hlt : k < u.length
    · have hg : ∀ h, (bs u)[k]'h = lt u k := fun h => get_bs h
      have h31 := and31 (lt u k)
      obtain ⟨q, hq⟩ : ∃ q, q = (lt u k).toNat % 32 := ⟨_, rfl⟩
      rw [← hq] at h31
      have hq31 : q ≤ 31 := by omega
      have hd : dlt (lt u k) = 2 ^ q / 2 := by unfold dlt; rw [hq]
      have hp : (2 : Nat) ^ q ≤ 2 ^ 31 := Nat.pow_le_pow_right (by omega) hq31
      have hp0 : 1 ≤ (2 : Nat) ^ q := Nat.one_le_two_pow
      have g1 : (1 : Int) ≤ (2 : Int) ^ q := by
        have e : (2 : Int) ^ q = ((2 ^ q : Nat) : Int) := by simp
        rw [e]; omega
      have g2 : (2 : Int) ^ q ≤ 2147483648 := by
        have e : (2 : Int) ^ q = ((2 ^ q : Nat) : Int) := by simp
        rw [e]; omega
      have g3 : ((2 : Int) ^ q).tdiv 2 = ((dlt (lt u k) : Nat) : Int) := by
        rw [hd, Int.tdiv_eq_ediv_of_nonneg (by omega)]; simp
      have g4 : ((2 : Int) ^ q) / 2 = ((dlt (lt u k) : Nat) : Int) := by rw [hd]; simp
      have HOR := hide (bits_or31 (letF_lt u k) (dlt_lt (lt u k)))
      have hor := HOR.out
      have HX := hide (letF_succ hlt)
      clear hq hd hp hp0
      go_wp2
      go_roundg (u.length - (k + 1))
      case measure => go_light; have := hm.out; omega
      case rel => go_light; exact ⟨k + 1, by omega, rfl, by go_num, by rw [HX.out], rfl⟩
    · obtain rfl : u.length = k := by omega
      cases hw : okW u
      · have HE := hide (letN_not hw)
        go_wp2_with fail
        refine (sWordOk_any u _ hn).mono ?_
        rw [hw]
        rintro e w' ⟨rfl, rfl⟩
        go_wp2
        go_ret
        exact ⟨ret_int HE.out.symm, rfl⟩
      · have HE := hide (letN_ok hw)
        have HL := hide (letF_all hw)
        go_wp2_with fail
        refine (sWordOk_any u _ hn).mono ?_
        rw [hw]
        rintro e w' ⟨rfl, rfl⟩
        go_wp2
        go_ret
        exact ⟨ret_int (by rw [HE.out, HL.out]), rfl⟩

set_option maxRecDepth 20000 in
set_option maxHeartbeats 2000000 in
theorem sRoundOf_any (u : List UInt8) (w : World) (hn : u.length ≤ 1048576) :
    Calls Try.prog 108 #[.string (bs u)] w fun e w' => e = .returned (.string (bs (rndW u))) ∧ w = w' := by
  have hsz := size_bs u
  cases hw : okW u
  · have HE := hide (rndW_not hw)
    go_enter Try.func108, Try.ntmps108
    go_wp2
    go_loopg [4, 3] 1 (fun m i s wr => i = .int .i64 ((u.length : Int) - 1) ∧ s = .string (bs []) ∧ w = wr)
    case atStart => exact ⟨rfl, rfl, rfl⟩
    case round =>
      obtain ⟨rfl, rfl, rfl⟩ := hrel
      by_cases h0 : (u.length : Int) - 1 ≥ 0
      · go_wp2_with fail
        refine (sWordOk_any u _ hn).mono ?_
        rw [hw]
        rintro e w' ⟨rfl, rfl⟩
        go_wp2
        go_ret
        rw [HE.out]
        exact ⟨rfl, rfl⟩
      · go_wp2
        go_ret
        rw [HE.out]
        exact ⟨rfl, rfl⟩
  · have HE := hide (rndW_ok hw)
    go_enter Try.func108, Try.ntmps108
    go_wp2
    go_loopg [4, 3] u.length (fun g i s wr => ∃ m : Nat, m ≤ u.length ∧ Hid (g = m) ∧ i = .int .i64 ((m : Int) - 1) ∧ s = .string (bs (u.drop m).reverse) ∧ w = wr)
    case atStart => exact ⟨u.length, Nat.le_refl _, rfl, rfl, by rw [List.drop_length]; rfl, rfl⟩
    case round =>
      obtain ⟨m, hm, hg, rfl, rfl, rfl⟩ := hrel
      cases m with
      | zero =>
        go_wp2
        go_ret
        rw [HE.out]
        exact ⟨rfl, rfl⟩
      | succ m =>
        have e0 : ((m + 1 : Nat) : Int) - 1 = (m : Int) := by omega
        have hlt : m < u.length := by omega
        have ha := (app_bs (u.drop (m + 1)).reverse [lt u m]).trans (congrArg bs (drop_rev hlt))
        have hz1 : (bs (u.drop (m + 1)).reverse).size = u.length - (m + 1) := by rw [size_bs]; simp
        have hz2 : (bs [lt u m]).size = 1 := by rw [size_bs]; rfl
        rw [e0]
        obtain ⟨V, hV⟩ : ∃ V, V = bs (u.drop (m + 1)).reverse := ⟨_, rfl⟩
        obtain ⟨V2, hV2⟩ : ∃ V2, V2 = bs [lt u m] := ⟨_, rfl⟩
        rw [← hV] at ha hz1 ⊢
        rw [← hV2] at ha hz2
        have hx := fun w => slice_one Try.underlying9 u ((m : Nat) : Int) ((m : Int) + 1) m rfl rfl hlt w
        rw [← hV2] at hx
        have HA := hide ha
        clear hV hV2 e0 ha
        go_wp2_with fail
        refine (sWordOk_any u _ hn).mono ?_
        rw [hw]
        rintro e w' ⟨rfl, rfl⟩
        go_wp2
        go_roundg m
        case measure => go_light; have := hg.out; omega
        case rel => go_light; exact ⟨m, by omega, rfl, by go_num, congrArg Value.string HA.out, rfl⟩

theorem quiet_let {P : Program} {f : FuncId} {args : Array Value} {w : World} {a : Nat} {v : Value} (h : Calls P f args (w.drewN a) fun e w' => e = .returned v ∧ w.drewN a = w') :
    Calls P f args (w.drewN a) fun e w'' => e = .returned v ∧ ∃ m, w'' = w.drewN m :=
  h.mono fun _ _ ⟨he, hm⟩ => ⟨he, a, hm.symm⟩
set_option maxRecDepth 20000 in
set_option maxHeartbeats 4000000 in
theorem sHeadOf_any (u : List UInt8) (w : World) (hn : u.length ≤ 1048576) :
    Calls Try.prog 91 #[.string (bs u)] w fun e w' => e = .returned (.tuple #[.string (bs (hdW u)), .string (bs (hlW u)), .bool (okW u)]) ∧ QD w w' := by
  have hsz := size_bs u
  cases hw : okW u
  · have HE := hide (hdW_not hw)
    have HL := hide (hlW_not hw)
    go_enter Try.func91, Try.ntmps91
    go_wp2_with fail
    refine (sWordOk_any u _ hn).mono ?_
    rw [hw]
    rintro e w' ⟨rfl, rfl⟩
    go_wp2
    refine bodyPost_ret (results_tmp3 rfl _ _ _) rfl ?_
    rw [HE.out, HL.out]
    exact ⟨rfl, QD.refl _⟩
  · have HE := hide (hdW_ok hw)
    have HL := hide (hlW_ok hw)
    have HW := hide hw
    have h1 := (okW_iff.1 hw).2.1
    go_enter Try.func91, Try.ntmps91
    go_wp2_with fail
    refine (sWordOk_any u _ hn).mono ?_
    rw [hw]
    rintro e w' ⟨rfl, rfl⟩
    clear hw
    go_wp2
    go_loopg [6, 5] u.length (fun g i s wr => ∃ k a : Nat, 1 ≤ k ∧ k ≤ u.length ∧ a < k ∧ Hid (g = u.length - k + 1) ∧ i = .int .i64 k ∧ s = .int .i64 a ∧ Hid (HdIs (u.take k) (u.take a) (lt u a)) ∧ QD w wr)
    case atStart => exact ⟨1, 0, by omega, h1, by omega, (show u.length = u.length - 1 + 1 from by omega), rfl, rfl, hd_start h1, QD.refl _⟩
    case round =>
      obtain ⟨k, a, hk1, hk, hak, hg, rfl, rfl, hH, hQ⟩ := hrel
      by_cases hlt : k < u.length
      · have l1 : (u.take (k + 1)).length ≤ 1048576 := by rw [List.length_take]; omega
        have l2 : (u.take k).length ≤ 1048576 := by rw [List.length_take]; omega
        have hx1 := fun w => slice_to Try.underlying9 u ((k : Int) + 1) (k + 1) rfl (by omega) w
        have hx2 := fun w => slice_to Try.underlying9 u (k : Int) k rfl (by omega) w
        have i3 : IntKind.i64.wrap ((k : Int) + 1) = (k : Int) + 1 := IntWalk.i64_in _ ⟨by omega, by omega⟩
        by_cases hm : lt u k ∈ u.take k
        · have HO := hide (let_old HW.out hk1 hlt hm)
          have HN := hide (hd_old hlt hH.out hm)
          obtain ⟨z, hz⟩ : ∃ z, z = letN (u.take k) := ⟨_, rfl⟩
          have C1 := hide (fun W => (show Calls Try.prog 49 #[.string (bs (u.take (k + 1)))] W fun e w' => e = .returned (.int .i64 z) ∧ W = w' from by rw [hz, ← HO.out]; exact sLettersIn_any _ W l1))
          have C2 := hide (fun W => (show Calls Try.prog 49 #[.string (bs (u.take k))] W fun e w' => e = .returned (.int .i64 z) ∧ W = w' from by rw [hz]; exact sLettersIn_any _ W l2))
          clear hm hz
          go_wp2
          go_quiet ((go_at_call 49
                     first
                       | with_reducible exact quiet_let (C1.out _)
                       | with_reducible exact quiet_let (C2.out _)))
          go_wp2
          go_roundg (u.length - (k + 1) + 1)
          case measure => go_light; have := hg.out; omega
          case rel => go_light; exact ⟨k + 1, a, by omega, by omega, by omega, rfl, by go_num, rfl, HN.out, hQ.drewN _⟩
        · have HO := hide (let_new HW.out hk1 hlt hm)
          have HN := hide (hd_new hlt hm)
          clear hm
          obtain ⟨z1, hz1⟩ : ∃ z, z = letN (u.take (k + 1)) := ⟨_, rfl⟩
          obtain ⟨z2, hz2⟩ : ∃ z, z = letN (u.take k) := ⟨_, rfl⟩
          have hne : ¬ z1 = z2 := by rw [hz1, hz2]; exact HO.out
          have C1 := hide (fun W => (show Calls Try.prog 49 #[.string (bs (u.take (k + 1)))] W fun e w' => e = .returned (.int .i64 z1) ∧ W = w' from by rw [hz1]; exact sLettersIn_any _ W l1))
          have C2 := hide (fun W => (show Calls Try.prog 49 #[.string (bs (u.take k))] W fun e w' => e = .returned (.int .i64 z2) ∧ W = w' from by rw [hz2]; exact sLettersIn_any _ W l2))
          clear hz1 hz2
          go_wp2
          go_quiet ((go_at_call 49
                     first
                       | with_reducible exact quiet_let (C1.out _)
                       | with_reducible exact quiet_let (C2.out _)))
          go_wp2
          go_roundg (u.length - (k + 1) + 1)
          case measure => go_light; have := hg.out; omega
          case rel => go_light; exact ⟨k + 1, k, by omega, by omega, by omega, rfl, by go_num, rfl, HN.out, hQ.drewN _⟩
      · obtain rfl : u.length = k := by omega
        have hH2 := hH.out
        rw [List.take_length] at hH2
        have HD := hide hH2.eq
        have hx1 := fun w => slice_to Try.underlying9 u (a : Int) a rfl (by omega) w
        have hx2 := fun w => slice_one Try.underlying9 u (a : Int) ((a : Int) + 1) a rfl rfl (by omega) w
        have i3 : IntKind.i64.wrap ((a : Int) + 1) = (a : Int) + 1 := IntWalk.i64_in _ ⟨by omega, by omega⟩
        clear hH2
        go_wp2
        go_quiet (fail)
        go_wp2
        refine bodyPost_ret (results_tmp3 rfl _ _ _) rfl ?_
        rw [HE.out, HL.out, HD.out.1, HD.out.2]
        exact ⟨rfl, hQ.drewN _⟩

set_option maxHeartbeats 2000000 in
theorem sTailOf_any (u : List UInt8) (w : World) (hn : u.length ≤ 1048576) :
    Calls Try.prog 92 #[.string (bs u)] w fun e w' => e = .returned (.tuple #[.string (bs (llW u)), .string (bs (tlW u)), .bool (okW u)]) ∧ QD w w' := by
  cases hw : okW u
  · have HE := hide (llW_not hw)
    have HL := hide (tlW_not hw)
    go_enter Try.func92, Try.ntmps92
    go_wp2_with fail
    refine (sRoundOf_any u _ hn).mono ?_
    rw [rndW_not hw]
    rintro e w' ⟨rfl, rfl⟩
    go_wp2_with fail
    refine (sHeadOf_any [] _ (by simp)).mono ?_
    rw [show okW [] = false from rfl]
    rintro e w1 ⟨rfl, q1⟩
    go_wp2
    refine bodyPost_ret (results_tmp3 rfl _ _ _) rfl ?_
    rw [HE.out, HL.out]
    exact ⟨rfl, q1⟩
  · have HE := hide (llW_ok hw)
    have HL := hide (tlW_ok hw)
    have HT := hide (rnd_hd hw)
    have hr : okW u.reverse = true := by rw [okW_rev]; exact hw
    have hl : (hd u.reverse).length ≤ 1048576 := by have := hd_lt (okW_ne hr); rw [List.length_reverse] at this; omega
    go_enter Try.func92, Try.ntmps92
    go_wp2_with fail
    refine (sRoundOf_any u _ hn).mono ?_
    rw [rndW_ok hw]
    rintro e w' ⟨rfl, rfl⟩
    go_wp2_with fail
    refine (sHeadOf_any u.reverse _ (by rw [List.length_reverse]; exact hn)).mono ?_
    rw [hr, hdW_ok hr, hlW_ok hr]
    rintro e w1 ⟨rfl, q1⟩
    clear hw hr
    go_wp2_with fail
    refine (sRoundOf_any (hd u.reverse) _ hl).mono ?_
    rw [HT.out]
    rintro e w' ⟨rfl, rfl⟩
    go_wp2
    refine bodyPost_ret (results_tmp3 rfl _ _ _) rfl ?_
    rw [HE.out, HL.out]
    exact ⟨rfl, q1⟩
end Go.Proofs.Ythllbekoidogpaa

namespace Go.Proofs.Ythllbekoidogpaa
open Go.RowKit
set_option linter.unusedVariables false


/-- What a table of things holds in memory. -/
theorem Mat.head {w : World} {lo hi : Nat} {A : Option Addr} {T : List (List Int)} (h : Mat w lo hi A T) (k : IsT T) :
    ∃ b o, A = some ⟨b, o, none⟩ ∧ lo ≤ b ∧ b < hi ∧ ∀ x : Int, 0 ≤ x → x < T.length → ∃ b2 o2 c, w.cell? ⟨b, o + x.toNat, none⟩ = some (.slice (some ⟨b2, o2, none⟩) T.length c) ∧ lo ≤ b2 ∧ b2 < hi ∧
      ∀ y : Int, 0 ≤ y → y < T.length → w.cell? ⟨b2, o2 + y.toNat, none⟩ = some (.int .i64 (mul T x y)) := by
  have h0 := k.lo
  obtain ⟨b, o, _, _, rfl, h1, h2, _⟩ := h 0 (by omega)
  refine ⟨b, o, rfl, h1, h2, fun x hx0 hx1 => ?_⟩
  obtain ⟨b', o', A', c, e, _, _, hc, hR⟩ := h x.toNat (by omega)
  obtain ⟨rfl, rfl⟩ : b = b' ∧ o = o' := by simpa using e
  have hl := k.len x.toNat (by omega)
  rw [hl] at hc
  obtain ⟨b2, o2, rfl, h3, h4, _⟩ := hR 0 (by omega)
  refine ⟨b2, o2, c, hc, h3, h4, fun y hy0 hy1 => ?_⟩
  obtain ⟨b3, o3, e3, _, _, hc3⟩ := hR y.toNat (by omega)
  obtain ⟨rfl, rfl⟩ : b2 = b3 ∧ o2 = o3 := by simpa using e3
  exact hc3

end Go.Proofs.Ythllbekoidogpaa

namespace Go.Proofs.Ythllbekoidogpaa
open Go.RowKit
set_option linter.unusedVariables false


/-- The table of n rows of n numbers told by a function. -/
def tabOf (n : Nat) (f : Nat → Nat → Int) : List (List Int) := (List.range n).map fun a => (List.range n).map fun b => f a b
theorem len_tabOf (n : Nat) (f : Nat → Nat → Int) : (tabOf n f).length = n := by simp [tabOf]
theorem row_tabOf {n : Nat} {f : Nat → Nat → Int} {i : Nat} (hi : i < n) : rw_ (tabOf n f) i = (List.range n).map fun b => f i b := by simp [tabOf, rw_, List.getD, hi]
theorem rowlen_tabOf {n : Nat} {f : Nat → Nat → Int} {i : Nat} (hi : i < n) : (rw_ (tabOf n f) i).length = n := by rw [row_tabOf hi]; simp
theorem el_tabOf {n : Nat} {f : Nat → Nat → Int} {i j : Nat} (hi : i < n) (hj : j < n) : el (rw_ (tabOf n f) i) j = f i j := by rw [row_tabOf hi]; simp [el, List.getD, hj]

/-- The rows' own blocks, when a rows are made and row a is being filled. -/
structure Blocks (w wr : World) (n a : Nat) (f : Nat → Nat → Int) (G : Nat → Nat) : Prop where
  below : Below w.heap.size w wr
  size : w.heap.size < wr.heap.size
  top : wr.rowIs w.heap.size 58 n (fun j => if j < a then .slice (some ⟨G j, 0, none⟩) n n else .slice none 0 0)
  in_ : ∀ j, j < a → w.heap.size < G j ∧ G j < wr.heap.size
  up : ∀ i j, i < j → j < a → G i < G j

/-- a rows are filled. -/
structure Fill (w wr : World) (n a : Nat) (f : Nat → Nat → Int) (G : Nat → Nat) : Prop extends Blocks w wr n a f G where
  done : ∀ j, j < a → wr.rowIs (G j) 3 n (fun c => .int .i64 (f j c))

/-- a rows are filled, and b numbers of the next. -/
structure FillI (w wr : World) (n a b : Nat) (f : Nat → Nat → Int) (G : Nat → Nat) : Prop extends Blocks w wr n (a + 1) f G where
  done : ∀ j, j < a → wr.rowIs (G j) 3 n (fun c => .int .i64 (f j c))
  cur : wr.rowIs (G a) 3 n (fun c => .int .i64 (if c < b then f a c else 0))

theorem fill_start (w : World) (n : Nat) (f : Nat → Nat → Int) : Fill w (w.alloc (.cells (madeCells #[.slice none 0 0] n) 58)) n 0 f (fun _ => 0) :=
  ⟨⟨(Below.refl _ _).alloc (Nat.le_refl _) _, by simp, (World.rowIs_made w _ n 58).congr (fun j _ => by simp), fun j hj => absurd hj (Nat.not_lt_zero _), fun i j _ hj => absurd hj (Nat.not_lt_zero _)⟩, fun j hj => absurd hj (Nat.not_lt_zero _)⟩

theorem fill_row {w wr : World} {n a : Nat} {f : Nat → Nat → Int} {G : Nat → Nat} (h : Fill w wr n a f G) (ha : a < n) :
    FillI w ((wr.alloc (.cells (madeCells #[.int .i64 0] n) 3)).setCell ⟨w.heap.size, a, none⟩ (.slice (some ⟨wr.heap.size, 0, none⟩) n n)) n a 0 f (fun j => if j = a then wr.heap.size else G j) := by
  have hs := h.size
  have hnew := World.rowIs_made wr (.int .i64 0) n 3
  refine ⟨⟨(h.below.alloc (Nat.le_of_lt h.size) _).setCell (Nat.le_refl _) _, by simp; omega, ((h.top.alloc _).set a _).congr (fun j hj => ?_), fun j hj => ?_, fun i j hij hj => ?_⟩, fun j hj => ?_, ?_⟩
  · by_cases e : j = a
    · subst e; simp
    · rw [if_neg e]
      by_cases hlt : j < a
      · rw [if_pos hlt, if_pos (by omega), if_neg e]
      · rw [if_neg hlt, if_neg (by omega)]
  · by_cases e : j = a
    · subst e; simp; exact hs
    · obtain ⟨h1, h2⟩ := h.in_ j (by omega)
      simp [e]; omega
  · rw [if_neg (by omega : i ≠ a)]
    by_cases e : j = a
    · rw [if_pos e]; exact (h.in_ i (by omega)).2
    · rw [if_neg e]; exact h.up i j hij (by omega)
  · rw [show (if j = a then wr.heap.size else G j) = G j from if_neg (by omega)]
    obtain ⟨h1, h2⟩ := h.in_ j hj
    exact ((h.done j hj).alloc _).setOther (by show G j ≠ w.heap.size; omega) _
  · rw [show (if a = a then wr.heap.size else G a) = wr.heap.size from if_pos rfl]
    exact (hnew.setOther (by show wr.heap.size ≠ w.heap.size; omega) _).congr (fun i _ => by simp)

theorem FillI.call {w wr w1 : World} {n a b : Nat} {f : Nat → Nat → Int} {G : Nat → Nat} (hb : Below wr.heap.size wr w1) (h : FillI w wr n a b f G) : FillI w w1 n a b f G := by
  have hs := h.size
  refine ⟨⟨h.below.trans (hb.mono (Nat.le_of_lt h.size)), Nat.lt_of_lt_of_le h.size hb.size, h.top.of_block (hb.block _ hs), fun j hj => ⟨(h.in_ j hj).1, Nat.lt_of_lt_of_le (h.in_ j hj).2 hb.size⟩, h.up⟩,
    fun j hj => (h.done j hj).of_block (hb.block _ (h.in_ j (by omega)).2), h.cur.of_block (hb.block _ (h.in_ a (by omega)).2)⟩
theorem FillI.drew {w wr : World} {n a b : Nat} {f : Nat → Nat → Int} {G : Nat → Nat} (h : FillI w wr n a b f G) : FillI w wr.drew n a b f G :=
  ⟨⟨h.below.drew, h.size, h.top, h.in_, h.up⟩, h.done, h.cur⟩
theorem FillI.store {w wr : World} {n a b : Nat} {f : Nat → Nat → Int} {G : Nat → Nat} (h : FillI w wr n a b f G) : FillI w (wr.setCell ⟨G a, b, none⟩ (.int .i64 (f a b))) n a (b + 1) f G := by
  obtain ⟨h1, h2⟩ := h.in_ a (by omega)
  refine ⟨⟨h.below.setCell (Nat.le_of_lt h1) _, by simpa [World.setCell] using h.size, h.top.setOther (by show w.heap.size ≠ G a; omega) _, fun j hj => by simpa [World.setCell] using h.in_ j hj, h.up⟩,
    fun j hj => (h.done j hj).setOther (by have := h.up j a hj (by omega); show G j ≠ G a; omega) _, (h.cur.set b _).congr (fun c _ => ?_)⟩
  by_cases e : c = b
  · subst e; simp
  · rw [if_neg e]
    by_cases hlt : c < b
    · rw [if_pos hlt, if_pos (by omega)]
    · rw [if_neg hlt, if_neg (by omega)]
theorem fill_rowdone {w wr : World} {n a : Nat} {f : Nat → Nat → Int} {G : Nat → Nat} (h : FillI w wr n a n f G) : Fill w wr n (a + 1) f G :=
  ⟨h.toBlocks, fun j hj => by
    by_cases e : j = a
    · subst e; exact h.cur.congr (fun c hc => by rw [if_pos hc])
    · exact h.done j (by omega)⟩
theorem fill_done {w wr : World} {n : Nat} {f : Nat → Nat → Int} {G : Nat → Nat} (h : Fill w wr n n f G) : OMat wr w.heap.size wr.heap.size (some ⟨w.heap.size, 0, none⟩) (tabOf n f) := by
  refine ⟨w.heap.size, 0, G, fun _ => n, fun i hi => ?_, fun i j hi hj hne => ?_⟩
  · rw [len_tabOf] at hi
    obtain ⟨h1, h2⟩ := h.in_ i hi
    have := h.top.cell hi
    refine ⟨rfl, Nat.le_refl _, h.size, by omega, by omega, h2, by rw [rowlen_tabOf hi]; simpa [hi] using this, ?_⟩
    exact Cells.of_rowIs (h.done i hi) (by rw [rowlen_tabOf hi]; exact Nat.le_refl _) (fun j hj => by rw [rowlen_tabOf hi] at hj; rw [el_tabOf hi hj])
  · rw [len_tabOf] at hi hj
    rcases Nat.lt_or_gt_of_ne hne with hlt | hlt
    · have := h.up i j hlt hj; omega
    · have := h.up j i hlt hi; omega

/-- What a cell holds now. -/
def curV (w : World) (p : Addr) : Value := (w.cell? p).getD undef
/-- One number of a row is being filled: it is, or is not yet. -/
def FS (w : World) (n a b : Nat) (f : Nat → Nat → Int) (G : Nat → Nat) (w' : World) : Prop := FillI w w' n a b f G ∨ FillI w w' n a (b + 1) f G
section
variable {w w0 w1 : World} {n a b : Nat} {f : Nat → Nat → Int} {G : Nat → Nat}
theorem FS.call (hb : Below w0.heap.size w0 w1) (h : FS w n a b f G w0) : FS w n a b f G w1 := h.imp (·.call hb) (·.call hb)
theorem FS.top (h : FS w n a b f G w0) (ha : a < n) : w0.cell? ⟨w.heap.size, a, none⟩ = some (.slice (some ⟨G a, 0, none⟩) n n) := by
  rcases h with h | h
  all_goals have := h.top.cell ha; simpa using this
theorem FS.now (h : FS w n a b f G w0) (hb : b < n) : w0.cell? ⟨G a, b, none⟩ = some (curV w0 ⟨G a, b, none⟩) := by
  rcases h with h | h
  all_goals have := h.cur.cell hb; simp [curV, this]
theorem FS.frz (h : FS w n a b f G w0) : w0.frozen? ⟨G a, b, none⟩ = false := by
  rcases h with h | h
  all_goals exact h.cur.frozen b
theorem FS.belowStore {v : Value} (h : FS w n a b f G w0) (hb : Below w.heap.size w w0) : Below w.heap.size w (w0.setCell ⟨G a, b, none⟩ v) := by
  rcases h with h | h
  all_goals exact hb.setCell (Nat.le_of_lt (h.in_ a (by omega)).1) _
theorem FS.store (h : FS w n a b f G w0) : FS w n a b f G (w0.setCell ⟨G a, b, none⟩ (.int .i64 (f a b))) := by
  right
  rcases h with h | h
  · exact h.store
  · obtain ⟨h1, h2⟩ := h.in_ a (by omega)
    refine ⟨⟨h.below.setCell (Nat.le_of_lt h1) _, by simpa [World.setCell] using h.size, h.top.setOther (by show w.heap.size ≠ G a; omega) _, fun j hj => by simpa [World.setCell] using h.in_ j hj, h.up⟩,
      fun j hj => (h.done j hj).setOther (by have := h.up j a hj (by omega); show G j ≠ G a; omega) _, (h.cur.set b _).congr (fun c _ => ?_)⟩
    by_cases e : c = b
    · subst e; simp
    · rw [if_neg e]
theorem FS.done (h : FS w n a b f G w0) (hb : b < n) (hv : w0.cell? ⟨G a, b, none⟩ = some (.int .i64 (f a b))) : FillI w w0 n a (b + 1) f G := by
  rcases h with h | h
  · have := (h.cur.cell hb).symm.trans hv
    have e : f a b = 0 := by simpa using this.symm
    refine ⟨h.toBlocks, h.done, h.cur.congr (fun c _ => ?_)⟩
    by_cases hc : c = b
    · subst hc; simp [e]
    · by_cases hlt : c < b
      · rw [if_pos hlt, if_pos (by omega)]
      · rw [if_neg hlt, if_neg (by omega)]
  · exact h
theorem set_now {w0 : World} {p : Addr} {u v : Value} (hs : p.spot = none) (h : (w0.setCell p v).cell? p = some u) : u = v := by
  simp only [World.setCell, World.cell?, Array.getElem?_modify, if_true, hs] at h
  cases e : w0.heap[p.block]? with
  | none => simp [e] at h
  | some o =>
    cases o <;> simp [e] at h
    rw [Array.getElem?_setIfInBounds, if_pos rfl] at h
    split at h
    · exact (Option.some.inj h).symm
    · cases h
end

set_option maxRecDepth 20000 in
set_option maxHeartbeats 4000000 in
theorem filledRows_any (fid : FuncId) (caps : Array Value) (n : Nat) (f : Nat → Nat → Int) (w : World) (hn : n ≤ 9) (hcf : ∀ (args : Array Value) (w : World), (callFunc fid args).run Try.prog w = .ok (.enter fid args) w)
    (hF : ∀ (wr : World) (a b : Nat), a < n → b < n → Below w.heap.size w wr → Calls Try.prog fid (#[.int .i64 a, .int .i64 b] ++ caps) wr fun e w' => e = .returned (.int .i64 (f a b)) ∧ Below wr.heap.size wr w') :
    Calls Try.prog 60 #[.int .i64 n, .func (.func fid) #[] caps] w fun e w' => e = .returned (.slice (some ⟨w.heap.size, 0, none⟩) n n) ∧ Below w.heap.size w w' ∧ OMat w' w.heap.size w'.heap.size (some ⟨w.heap.size, 0, none⟩) (tabOf n f) := by
  have HF := hide hF
  clear hF
  have hmk := run_make_row' (P := Try.prog) 23 58 (.slice none 0 0) 24 Try.underlying23 info_row rfl .i64 .i64 n (by omega) (by omega)
  go_enter Try.func60, Try.ntmps60
  go_wp2
  clear hmk
  go_loopg [11] n (fun g i wr => ∃ (a : Nat) (G : Nat → Nat), a ≤ n ∧ g = n - a ∧ i = .int .i64 a ∧ Fill w wr n a f G)
  case atStart => exact ⟨0, _, Nat.zero_le _, rfl, rfl, fill_start w n f⟩
  case round =>
    obtain ⟨a, G, ha, rfl, rfl, hO⟩ := hrel
    by_cases hlt : a < n
    · have hmk := run_make_row' (P := Try.prog) 58 3 (.int .i64 0) 8 Try.underlying58 info_int rfl .i64 .i64 n (by omega) (by omega)
      have hst1 : ∀ o, (wr.alloc o).cell? ⟨w.heap.size, a, none⟩ = some (.slice none 0 0) := fun o => by have := (hO.top.alloc o).cell hlt; simpa using this
      have hst2 : ∀ o, (wr.alloc o).frozen? ⟨w.heap.size, a, none⟩ = false := fun o => (hO.top.alloc o).frozen a
      go_wp2
      have hI0 := fill_row hO hlt
      obtain ⟨G1, hG1⟩ : ∃ G1, G1 = fun j => if j = a then wr.heap.size else G j := ⟨_, rfl⟩
      rw [← hG1] at hI0
      clear hmk hst1 hst2 hO hG1
      go_loopg [20] n (fun g i wi => ∃ b : Nat, b ≤ n ∧ g = n - b ∧ i = .int .i64 b ∧ FillI w wi n a b f G1)
      case atStart => exact ⟨0, Nat.zero_le _, rfl, rfl, hI0⟩
      case round =>
        obtain ⟨b, hb, rfl, rfl, hI⟩ := hrel
        clear hI0
        by_cases hbt : b < n
        · have hFS : FS w n a b f G1 _ := .inl hI.drew
          have i0 : (0 : Int) ≤ (a : Int) := by omega
          have i1 : (a : Int) < (n : Int) := by omega
          have j0 : (0 : Int) ≤ (b : Int) := by omega
          have j1 : (b : Int) < (n : Int) := by omega
          go_wp2
          go_region_held3 (fun w' => w'.cell? ⟨w.heap.size, a, none⟩ = some (.slice (some ⟨G1 a, 0, none⟩) n n) ∧ w'.cell? ⟨G1 a, b, none⟩ = some (curV w' ⟨G1 a, b, none⟩) ∧ w'.frozen? ⟨G1 a, b, none⟩ = false ∧ Below w.heap.size w w' ∧ FS w n a b f G1 w')
            (first
              | exact ⟨hFS.top hlt, hFS.now hbt, hFS.frz, hI.below.drew, hFS⟩
              | (go_split_ands
                 exact ⟨FS.top (FS.call (by assumption) (by assumption)) hlt, FS.now (FS.call (by assumption) (by assumption)) hbt, FS.frz (FS.call (by assumption) (by assumption)), Below.trans (by assumption) (Below.mono (by assumption) (Below.size (by assumption))), FS.call (by assumption) (by assumption)⟩)
              | (go_split_ands
                 exact ⟨FS.top (FS.store (by assumption)) hlt, FS.now (FS.store (by assumption)) hbt, FS.frz (FS.store (by assumption)), FS.belowStore (by assumption) (by assumption), FS.store (by assumption)⟩))
            (first
              | (go_split_ands
                 refine (HF.out _ a b hlt hbt ?_).mono ?_
                 · assumption
                 rintro e w1 ⟨rfl, hbc⟩))
          rename_i hHeld
          obtain ⟨_, hc, _, _, hfs⟩ := hHeld
          have hd := FS.done hfs hbt (hc.trans (congrArg some (set_now rfl hc)))
          clear hc hfs hI
          go_wp2
          go_roundg (n - (b + 1))
          case measure => go_light; omega
          case rel => go_light; exact ⟨b + 1, by omega, rfl, by go_num, hd⟩
        · obtain rfl : b = n := by omega
          go_wp2
          go_roundg (b - (a + 1))
          case measure => go_light; omega
          case rel => go_light; exact ⟨a + 1, G1, by omega, rfl, by go_num, fill_rowdone hI⟩
    · obtain rfl : a = n := by omega
      go_wp2
      go_ret
      exact ⟨rfl, hO.below, fill_done hO⟩
end Go.Proofs.Ythllbekoidogpaa

namespace Go.Proofs.Ythllbekoidogpaa
open Go.RowKit
set_option linter.unusedVariables false


/-- A call that returns a new table. -/
def NewTab (w : World) (T : List (List Int)) (e : Ending) (w' : World) : Prop := ∃ A c, e = .returned (.slice A T.length c) ∧ Below w.heap.size w w' ∧ Mat w' w.heap.size w'.heap.size A T
/-- A call that returns a new table, each row in a block of its own. -/
def OwnTab (w : World) (T : List (List Int)) (e : Ending) (w' : World) : Prop := ∃ A c, e = .returned (.slice A T.length c) ∧ Below w.heap.size w w' ∧ OMat w' w.heap.size w'.heap.size A T

theorem ret_slice {A : Option Addr} {n m c : Nat} (h : n = m) : Ending.returned (.slice A n c) = .returned (.slice A m c) := by rw [h]
noncomputable def turnT (T : List (List Int)) : List (List Int) := if okT T = true then tabOf T.length fun a b => mul T b a else []
theorem turnT_ok {T : List (List Int)} (h : okT T = true) : turnT T = tabOf T.length fun a b => mul T b a := by unfold turnT; rw [if_pos h]
theorem turnT_not {T : List (List Int)} (h : okT T = false) : turnT T = [] := by unfold turnT; rw [if_neg (by rw [h]; exact Bool.false_ne_true)]

set_option maxHeartbeats 1000000 in
theorem turned1_any (A : Option Addr) (c lo hi B : Nat) (T : List (List Int)) (x y : Nat) (w : World) (h : Mat w lo hi A T) (hh : hi ≤ w.heap.size) (k : IsT T) (hB : w.cell? ⟨B, 0, none⟩ = some (.slice A T.length c)) (hx : x < T.length) (hy : y < T.length) :
    Calls Try.prog 61 #[.int .i64 x, .int .i64 y, .pointer (some ⟨B, 0, none⟩)] w fun e w' => e = .returned (.int .i64 (mul T y x)) ∧ Below w.heap.size w w' := by
  go_enter Try.func61, Try.ntmps61
  go_wp2_with (go_at_call 62; refine (product_any _ _ _ _ _ _ _ _ h hh k (by omega) (by omega) (by omega) (by omega)).mono ?_; rintro e w1 ⟨rfl, b1⟩)
  go_ret
  exact ⟨rfl, b1⟩

set_option maxHeartbeats 1000000 in
theorem iTurnedOf_any (A : Option Addr) (c lo hi : Nat) (T : List (List Int)) (w : World) (h : Mat w lo hi A T) (hh : hi ≤ w.heap.size) (hS : Small T) :
    Calls Try.prog 24 #[.slice A T.length c] w (OwnTab w (turnT T)) := by
  cases hk : okT T
  · have HT := hide (turnT_not hk)
    go_enter Try.func24, Try.ntmps24
    go_wp2_with (go_at_call 33; refine (iTableOk_any _ _ _ _ _ _ h hS).mono ?_; rintro e w' ⟨rfl, rfl⟩; rw [hk])
    go_ret
    refine ⟨none, 0, by rw [HT.out]; rfl, Below.refl _ _, ?_⟩
    rw [HT.out]; exact OMat.nil _ _ _ _
  · have k := okT_iff.1 hk
    have k9 := k.hi
    have HT := hide (turnT_ok hk)
    have hcf : ∀ (args : Array Value) (w : World), (callFunc 61 args).run Try.prog w = .ok (.enter 61 args) w := fun args w => by kernel_rfl
    have HC := hide hcf
    clear hcf
    have b0 := (Below.refl w.heap.size w).alloc (Nat.le_refl _) (.cells #[.slice A T.length c] 61)
    have hcell : ∀ wr, Below (w.alloc (.cells #[.slice A T.length c] 61)).heap.size (w.alloc (.cells #[.slice A T.length c] 61)) wr → wr.cell? ⟨w.heap.size, 0, none⟩ = some (.slice A T.length c) := fun wr hb => by
      rw [hb.cell (p := ⟨w.heap.size, 0, none⟩) (by simp)]; simp
    go_enter Try.func24, Try.ntmps24
    go_wp2_with fail
    refine (iTableOk_any _ _ _ _ _ _ h hS).mono ?_
    rintro e w' ⟨rfl, rfl⟩
    rw [hk]
    go_wp2_with fail
    refine (filledRows_any 61 #[.pointer (some ⟨w.heap.size, 0, none⟩)] T.length (fun a b => mul T b a) _ k9 HC.out (fun wr a b ha hb hbl => ?_)).mono ?_
    · have hs : w.heap.size ≤ wr.heap.size := Nat.le_trans (by simp) hbl.size
      exact turned1_any A c lo hi w.heap.size T a b wr (h.below (b0.trans (hbl.mono (by simp))) hh) (Nat.le_trans hh hs) k (hcell wr hbl) ha hb
    · rintro e w1 ⟨rfl, b1, o1⟩
      go_wp2
      go_ret
      have es : (w.alloc (Obj.cells #[Value.slice A T.length c] 61)).heap.size = w.heap.size + 1 := by simp
      rw [es] at o1
      refine ⟨some ⟨w.heap.size + 1, 0, none⟩, T.length, ret_slice (by rw [HT.out, len_tabOf]), b0.trans (b1.mono (by simp)), ?_⟩
      rw [HT.out]
      exact o1.mono (by omega) (Nat.le_refl _)

end Go.Proofs.Ythllbekoidogpaa

namespace Go.Proofs.Ythllbekoidogpaa
set_option linter.unusedVariables false
theorem mul_turnT {T : List (List Int)} (h : okT T = true) {x y : Int} (hx0 : 0 ≤ x) (hx1 : x < T.length) (hy0 : 0 ≤ y) (hy1 : y < T.length) : mul (turnT T) x y = mul T y x := by
  rw [turnT_ok h]
  unfold mul
  rw [el_tabOf (by omega) (by omega), Int.toNat_of_nonneg hx0, Int.toNat_of_nonneg hy0]
theorem len_turnT {T : List (List Int)} (h : okT T = true) : (turnT T).length = T.length := by rw [turnT_ok h, len_tabOf]
theorem isT_turnT {T : List (List Int)} (h : okT T = true) : IsT (turnT T) := by
  have k := okT_iff.1 h
  refine ⟨by rw [len_turnT h]; exact k.lo, by rw [len_turnT h]; exact k.hi, fun i hi => ?_, fun i j hi hj => ?_⟩
  · rw [len_turnT h] at hi ⊢
    rw [turnT_ok h, rowlen_tabOf hi]
  · rw [len_turnT h] at hi hj ⊢
    rw [turnT_ok h, el_tabOf hi hj]
    exact k.mul (by omega) (by omega) (by omega) (by omega)
theorem small_turnT {T : List (List Int)} : Small (turnT T) := by
  cases hk : okT T
  · rw [turnT_not hk]; exact ⟨by simp, fun i hi => absurd hi (Nat.not_lt_zero _)⟩
  · exact (isT_turnT hk).small
theorem isG_turnT {T : List (List Int)} (h : IsG T) : IsG (turnT T) := by
  have ho := okT_iff.2 h.tab
  refine ⟨isT_turnT ho, fun x y z hx0 hx1 hy0 hy1 hz0 hz1 => ?_⟩
  rw [len_turnT ho] at hx1 hy1 hz1
  obtain ⟨a0, a1⟩ := h.tab.mul hz0 hz1 hy0 hy1
  obtain ⟨b0, b1⟩ := h.tab.mul hy0 hy1 hx0 hx1
  rw [mul_turnT ho hy0 hy1 hz0 hz1, mul_turnT ho hx0 hx1 hy0 hy1, mul_turnT ho hx0 hx1 a0 a1, mul_turnT ho b0 b1 hz0 hz1]
  exact (h.grp z y x hz0 hz1 hy0 hy1 hx0 hx1).symm
end Go.Proofs.Ythllbekoidogpaa

namespace Go.Proofs.Ythllbekoidogpaa
set_option linter.unusedVariables false

/-- Whether a rule holds of a thing and all; of all and all; the first thing of which it holds with all. -/
def allR (n : Nat) (r : Nat → Nat → Bool) (a : Nat) : Bool := (List.range n).all (r a)
def allRR (n : Nat) (r : Nat → Nat → Bool) : Bool := (List.range n).all fun a => allR n r a
theorem allR_iff {n : Nat} {r : Nat → Nat → Bool} {a : Nat} : allR n r a = true ↔ ∀ b, b < n → r a b = true := by
  unfold allR
  rw [List.all_eq_true]
  exact ⟨fun h b hb => h b (List.mem_range.2 hb), fun h b hb => h b (List.mem_range.1 hb)⟩
theorem allRR_iff {n : Nat} {r : Nat → Nat → Bool} : allRR n r = true ↔ ∀ a b, a < n → b < n → r a b = true := by
  unfold allRR
  rw [List.all_eq_true]
  exact ⟨fun h a b ha hb => allR_iff.1 (h a (List.mem_range.2 ha)) b hb, fun h a ha => allR_iff.2 fun b hb => h a b (List.mem_range.1 ha) hb⟩
def rOwn (T : List (List Int)) (a _b : Nat) : Bool := mul T (a : Int) (a : Int) == (a : Int)
def rLeft (T : List (List Int)) (a b : Nat) : Bool := mul T (mul T (a : Int) (b : Int)) (a : Int) == mul T (a : Int) (b : Int)
noncomputable def bandT (T : List (List Int)) : Bool := grpT T && allRR T.length (rOwn T)
noncomputable def leftT (T : List (List Int)) : Bool := bandT T && allRR T.length (rLeft T)
/-- A band. -/
structure IsB (T : List (List Int)) : Prop where
  g : IsG T
  sq : ∀ x : Int, 0 ≤ x → x < T.length → mul T x x = x
theorem bandT_iff {T : List (List Int)} : bandT T = true ↔ IsB T := by
  unfold bandT
  rw [Bool.and_eq_true, grpT_iff, allRR_iff]
  constructor
  · rintro ⟨g, h⟩
    refine ⟨g, fun x x0 x1 => ?_⟩
    have := h x.toNat x.toNat (by omega) (by omega)
    unfold rOwn at this
    rw [Int.toNat_of_nonneg x0] at this
    simpa using this
  · rintro ⟨g, h⟩
    exact ⟨g, fun a b ha hb => by unfold rOwn; rw [h (a : Nat) (by omega) (by omega)]; simp⟩
theorem band_cond {T : List (List Int)} {r : Nat → Nat → Bool} {R : Int → Int → Prop} (hr : ∀ a b : Nat, r a b = true ↔ R a b) : (bandT T && allRR T.length r) = true ↔ IsB T ∧ ∀ x y : Int, 0 ≤ x → x < T.length → 0 ≤ y → y < T.length → R x y := by
  rw [Bool.and_eq_true, bandT_iff, allRR_iff]
  refine and_congr_right fun _ => ⟨fun h x y x0 x1 y0 y1 => ?_, fun h a b ha hb => (hr a b).2 (h a b (by omega) (by omega) (by omega) (by omega))⟩
  have := (hr _ _).1 (h x.toNat y.toNat (by omega) (by omega))
  rwa [Int.toNat_of_nonneg x0, Int.toNat_of_nonneg y0] at this
theorem leftT_iff {T : List (List Int)} : leftT T = true ↔ IsB T ∧ ∀ x y : Int, 0 ≤ x → x < T.length → 0 ≤ y → y < T.length → mul T (mul T x y) x = mul T x y := band_cond (R := fun x y => mul T (mul T x y) x = mul T x y) fun a b => by unfold rLeft; exact beq_iff_eq

theorem isB_turn {T : List (List Int)} (h : IsB T) : IsB (turnT T) := by
  have ho := okT_iff.2 h.g.tab
  refine ⟨isG_turnT h.g, fun x x0 x1 => ?_⟩
  rw [len_turnT ho] at x1
  rw [mul_turnT ho x0 x1 x0 x1]
  exact h.sq x x0 x1
section
variable {T U : List (List Int)}
end
end Go.Proofs.Ythllbekoidogpaa
