
/- What lies directly under a thing, and how high it is: the program's. -/
import Derived.Test.YtcegjiiondmchaaIordA
import Derived.Test.YtcegjiiondmchaaMadeS
namespace Go.Proofs.Ytcegjiiondmchaa
open Go.RowKit
set_option linter.unusedVariables false


set_option maxRecDepth 20000 in
set_option maxHeartbeats 4000000 in
theorem directly_any (T : List (List Int)) (a : Nat) (w : World) (k9 : T.length ≤ 9) (ha : a < T.length) :
    Calls Try.prog 91 #[.agg #[.int .i64 ((ordU T 0 : Nat) : Int), .int .i64 ((ordU T 1 : Nat) : Int), .int .i64 ((ordU T 2 : Nat) : Int), .int .i64 ((ordU T 3 : Nat) : Int), .int .i64 ((ordU T 4 : Nat) : Int), .int .i64 ((ordU T 5 : Nat) : Int), .int .i64 ((ordU T 6 : Nat) : Int), .int .i64 ((ordU T 7 : Nat) : Int), .int .i64 ((ordU T 8 : Nat) : Int)], .int .i64 a] w fun e w' => ∃ d : Nat, e = .returned (.int .i64 (d : Nat)) ∧ DirS T a d ∧ Below w.heap.size w w' := by
  have hU : ∀ i, i < T.length → ordU T i = undB T i := fun i hi => by unfold ordU; rw [if_pos hi]
  have hUl : ∀ i, i < T.length → ordU T i < 1024 := fun i hi => by rw [hU i hi]; have := under_lt (T := T) (x := i) k9; omega
  have HUL := hide hUl
  have HUE := hide hU
  have hO := ord_new w (ordU T)
  have hB := (Below.refl w.heap.size w).alloc (Nat.le_refl _) (.cells #[.int .i64 ((ordU T 0 : Nat) : Int), .int .i64 ((ordU T 1 : Nat) : Int), .int .i64 ((ordU T 2 : Nat) : Int), .int .i64 ((ordU T 3 : Nat) : Int), .int .i64 ((ordU T 4 : Nat) : Int), .int .i64 ((ordU T 5 : Nat) : Int), .int .i64 ((ordU T 6 : Nat) : Int), .int .i64 ((ordU T 7 : Nat) : Int), .int .i64 ((ordU T 8 : Nat) : Int)] 50)
  clear hU hUl
  go_enter Try.func91, Try.ntmps91
  go_wp2_with fail
  refine (properly_any (ordU T) a _ (by omega) (HUL.out a ha)).mono ?_
  rintro e w1 ⟨rfl, b1⟩
  rw [HUE.out a ha]
  have hO1 := hO.call b1
  have hB1 := hB.trans (b1.mono hB.size)
  clear hO hB b1
  have HD : Hid (∀ d, DirI T a (andn (undB T a) (2 ^ a)) (thk (andn (undB T a) (2 ^ a)) 9).length d → DirS T a d) := fun d hd => hd.done k9 ha
  have hL5 : andn (undB T a) (2 ^ a) < 512 := by
    have hl := under_lt (T := T) (x := a) k9
    apply Nat.lt_of_not_le
    intro h
    obtain ⟨i, hi, hb⟩ := Nat.exists_ge_and_testBit_of_ge_two_pow (n := 9) h
    rw [andn_bit (by omega), Nat.testBit_lt_two_pow (Nat.lt_of_lt_of_le hl (Nat.pow_le_pow_right (n := 2) (by omega) hi))] at hb
    cases hb
  have HL : Hid (∀ x, (andn (undB T a) (2 ^ a)).testBit x = true → x < T.length) := fun x hx => ((under_sbl ha k9).1 hx).1
  generalize andn (undB T a) (2 ^ a) = L at *
  go_wp2_with fail
  refine (thingsIn_any L _ (by omega)).mono ?_
  rintro e w2 ⟨A2, c2, rfl, b2, hR, l2, m2⟩
  have hO2 := hO1.call b2
  have hB2 := hB1.trans (b2.mono hB1.size)
  have hRh := b2.size
  have hs1 := hB1.size
  clear hO1 hB1 b2
  go_wp2
  go_loopg [16, 6] (thk L 9).length (fun g i v wr => ∃ j d : Nat, j ≤ (thk L 9).length ∧ Hid (g = (thk L 9).length - j) ∧ i = .int .i64 j ∧ v = .int .i64 (d : Nat) ∧ Hid (DirI T a L j d) ∧ Below w2.heap.size w2 wr)
  case atStart => exact ⟨0, L, Nat.zero_le _, rfl, rfl, rfl, dirI_start hL5, Below.refl _ _⟩
  case round =>
    obtain ⟨j, d, hj, hgk, rfl, rfl, hD, hW⟩ := hrel
    have l9 := len_thk L 9
    have hWs := hW.size
    by_cases hlt : j < (thk L 9).length
    · obtain ⟨bx, ox, rfl, _, hbx, hcx⟩ := hR j hlt
      obtain ⟨x, hx, hbit, _⟩ := thk_mem hlt
      rw [hx] at hcx
      have hxn := HL.out x hbit
      have hcx2 := (hW.cell (p := ⟨bx, ox + j, none⟩) hbx).trans hcx
      have hOw : OrdC wr w.heap.size (ordU T) := hO2.call hW
      have hu0 := hOw.cell (i := 0) (by omega)
      have hu1 := hOw.cell (i := 1) (by omega)
      have hu2 := hOw.cell (i := 2) (by omega)
      have hu3 := hOw.cell (i := 3) (by omega)
      have hu4 := hOw.cell (i := 4) (by omega)
      have hu5 := hOw.cell (i := 5) (by omega)
      have hu6 := hOw.cell (i := 6) (by omega)
      have hu7 := hOw.cell (i := 7) (by omega)
      have hu8 := hOw.cell (i := 8) (by omega)
      have HN := hide (hD.out.step k9 hlt hx hxn HL.out)
      have hand : bits .andNot .i64 (d : Int) ((andn (undB T x) (2 ^ x) : Nat) : Int) = ((andn d (andn (undB T x) (2 ^ x)) : Nat) : Int) := bits_andn (by have := hD.out.1; omega) (andn_lt (by have := under_lt (T := T) (x := x) k9; omega))
      have HX := hide hx
      clear hx hcx hO2 hR
      go_wp2_with fail
      refine (properly_any (ordU T) x _ (by omega) (HUL.out x hxn)).mono ?_
      rw [HUE.out x hxn]
      rintro e w3 ⟨rfl, b3⟩
      generalize andn (undB T x) (2 ^ x) = y at *
      generalize andn d y = z at *
      go_wp2
      go_roundg ((thk L 9).length - (j + 1))
      case measure => go_light; have := hgk.out; omega
      case rel => go_light; exact ⟨j + 1, z, by omega, rfl, by go_num, rfl, HN.out, hW.trans (b3.mono hWs)⟩
    · obtain rfl : (thk L 9).length = j := by omega
      go_wp2
      go_ret
      exact ⟨d, rfl, HD.out d hD.out, hB2.trans (hW.mono hB2.size)⟩

set_option maxRecDepth 20000 in
set_option maxHeartbeats 4000000 in
theorem highUpTo_any (T : List (List Int)) (hb : bandT T = true) : ∀ (m a : Nat) (w : World), htA T a ≤ m → a < T.length →
    Calls Try.prog 66 #[.agg #[.int .i64 ((ordU T 0 : Nat) : Int), .int .i64 ((ordU T 1 : Nat) : Int), .int .i64 ((ordU T 2 : Nat) : Int), .int .i64 ((ordU T 3 : Nat) : Int), .int .i64 ((ordU T 4 : Nat) : Int), .int .i64 ((ordU T 5 : Nat) : Int), .int .i64 ((ordU T 6 : Nat) : Int), .int .i64 ((ordU T 7 : Nat) : Int), .int .i64 ((ordU T 8 : Nat) : Int)], .int .i64 a] w fun e w' => e = .returned (.int .i64 ((htA T a : Nat) : Int)) ∧ Below w.heap.size w w' := by
  have k9 := (band_tab hb).hi
  intro m
  induction m with
  | zero =>
    intro a w hm ha
    have := (htA_is hb ha).one
    omega
  | succ m ih =>
    intro a w hm ha
    have IH := hide ih
    have HB := hide hb
    have HM := hide hm
    clear ih hb hm
    have hO := ord_new w (ordU T)
    have hB := (Below.refl w.heap.size w).alloc (Nat.le_refl _) (.cells #[.int .i64 ((ordU T 0 : Nat) : Int), .int .i64 ((ordU T 1 : Nat) : Int), .int .i64 ((ordU T 2 : Nat) : Int), .int .i64 ((ordU T 3 : Nat) : Int), .int .i64 ((ordU T 4 : Nat) : Int), .int .i64 ((ordU T 5 : Nat) : Int), .int .i64 ((ordU T 6 : Nat) : Int), .int .i64 ((ordU T 7 : Nat) : Int), .int .i64 ((ordU T 8 : Nat) : Int)] 50)
    go_enter Try.func66, Try.ntmps66
    go_wp2_with fail
    refine (directly_any T a _ k9 ha).mono ?_
    rintro e w1 ⟨d, rfl, hD, b1⟩
    have hd5 := hD.1
    have HD := hide hD
    have hO1 := hO.call b1
    have hB1 := hB.trans (b1.mono hB.size)
    clear hO hB b1 hD
    go_wp2_with fail
    refine (thingsIn_any d _ (by omega)).mono ?_
    rintro e w2 ⟨A2, c2, rfl, b2, hR, l2, m2⟩
    have hO2 := hO1.call b2
    have hB2 := hB1.trans (b2.mono hB1.size)
    have hRh := b2.size
    have hs1 := hB1.size
    clear hO1 hB1 b2
    go_wp2
    go_loopg [13, 5] (thk d 9).length (fun g i v wr => ∃ j q : Nat, j ≤ (thk d 9).length ∧ Hid (g = (thk d 9).length - j) ∧ i = .int .i64 j ∧ v = .int .i64 (q : Nat) ∧ q ≤ 9 ∧ Hid (MostH T d j q) ∧ Below w2.heap.size w2 wr)
    case atStart => exact ⟨0, 0, Nat.zero_le _, rfl, rfl, rfl, Nat.zero_le _, mostH_start d, Below.refl _ _⟩
    case round =>
      obtain ⟨j, q, hj, hgk, rfl, rfl, hq9, hQ, hW⟩ := hrel
      have l9 := len_thk d 9
      have hWs := hW.size
      by_cases hlt : j < (thk d 9).length
      · obtain ⟨bx, ox, rfl, _, hbx, hcx⟩ := hR j hlt
        obtain ⟨x, hx, hbit, _⟩ := thk_mem hlt
        rw [hx] at hcx
        obtain ⟨hxn, hxs⟩ := HD.out.next hbit
        have hlow := htA_lt HB.out ha hxn hxs
        have hcx2 := (hW.cell (p := ⟨bx, ox + j, none⟩) hbx).trans hcx
        have hOw : OrdC wr w.heap.size (ordU T) := hO2.call hW
        have hu0 := hOw.cell (i := 0) (by omega)
        have hu1 := hOw.cell (i := 1) (by omega)
        have hu2 := hOw.cell (i := 2) (by omega)
        have hu3 := hOw.cell (i := 3) (by omega)
        have hu4 := hOw.cell (i := 4) (by omega)
        have hu5 := hOw.cell (i := 5) (by omega)
        have hu6 := hOw.cell (i := 6) (by omega)
        have hu7 := hOw.cell (i := 7) (by omega)
        have hu8 := hOw.cell (i := 8) (by omega)
        have HN := hide (hQ.out.step hlt hx hxn hbit)
        have hx9 := htA_le HB.out hxn
        have HX := hide hx
        have HIH := hide (IH.out x · (by have := HM.out; omega) hxn)
        clear hx hcx hO2 hR hlow hxs
        generalize htA T x = y at *
        have hmx : max (q : Int) (y : Int) = ((max q y : Nat) : Int) := by omega
        go_wp2_with fail
        refine (HIH.out _).mono ?_
        rintro e w3 ⟨rfl, b3⟩
        clear hmx
        by_cases hqy : q < y
        · have HX2 := hide (show max q y = y by omega)
          go_wp2
          go_roundg ((thk d 9).length - (j + 1))
          case measure => go_light; have := hgk.out; omega
          case rel => go_light; exact ⟨j + 1, y, by omega, rfl, by go_num, rfl, by omega, HX2.out ▸ HN.out, hW.trans (b3.mono hWs)⟩
        · have HX2 := hide (show max q y = q by omega)
          go_wp2
          go_roundg ((thk d 9).length - (j + 1))
          case measure => go_light; have := hgk.out; omega
          case rel => go_light; exact ⟨j + 1, q, by omega, rfl, by go_num, rfl, by omega, HX2.out ▸ HN.out, hW.trans (b3.mono hWs)⟩
      · obtain rfl : (thk d 9).length = j := by omega
        have HE := hide (htA_step HB.out ha HD.out hQ.out)
        go_wp2
        go_ret
        exact ⟨ret_int (by rw [HE.out]; go_num), hB2.trans (hW.mono hB2.size)⟩
end Go.Proofs.Ytcegjiiondmchaa
