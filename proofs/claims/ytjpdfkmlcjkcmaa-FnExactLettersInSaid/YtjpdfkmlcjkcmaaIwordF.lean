
/- Values of words: the landed code's. -/
import Derived.Test.YtjpdfkmlcjkcmaaIwordE
import Derived.Test.YtjpdfkmlcjkcmaaSvalue
namespace Go.Proofs.Ytjpdfkmlcjkcmaa
open Go.RowKit Go.Lib
set_option linter.unusedVariables false
set_option linter.unusedSimpArgs false

theorem arow_iterAt {W : World} {base g : Nat} {s : ByteArray} {p : Nat} {v : Value} {xs : List Int} (h : ARow base W v xs) (hI : W.heap[g]? = some (.stringIter s p)) (p' : Nat) : ARow base (W.iterAt g s p') v xs := by
  obtain ⟨h1, h2⟩ := h
  refine ⟨h1, h2.imp id ?_⟩
  rintro ⟨b, cap, cur, hv, hg, hh, r⟩
  refine ⟨b, cap, cur, hv, hg, (Lib.iterAt_other W g b s p' (fun e => ?_)).trans hh, r⟩
  rw [e, hI] at hh
  cases hh

set_option maxRecDepth 20000 in
set_option maxHeartbeats 4000000 in
theorem valued_any (A : Option Addr) (c lo hi p q : Nat) (T : List (List Int)) (u : List UInt8) (x y z : Int) (w : World) (h : Mat w lo hi A T) (hh : hi ≤ w.heap.size) (k : IsT T) (hw : okW u = true) (hx : inT T x = true) (hy : inT T y = true) (hz : inT T z = true)
    (p0 : w.cell? ⟨p, 0, none⟩ = some (.int .i64 x)) (p1 : w.cell? ⟨p, 1, none⟩ = some (.int .i64 y)) (p2 : w.cell? ⟨p, 2, none⟩ = some (.int .i64 z)) (hq : w.cell? ⟨q, 0, none⟩ = some (.slice A T.length c)) :
    Calls Try.prog 67 #[.string (bs u), .pointer (some ⟨p, 0, none⟩), .pointer (some ⟨q, 0, none⟩)] w fun e w' => e = .returned (.int .i64 (prodT T (u.map (ltf x y z)))) ∧ Below w.heap.size w w' := by
  have hsz := size_bs u
  have hok := hide (okW_iff.1 hw)
  have hln : u.length ≤ 24 := hok.out.2.2
  have hl1 : 1 ≤ u.length := hok.out.2.1
  have lp := World.block_lt_of_cell? _ _ p0
  have lq := World.block_lt_of_cell? _ _ hq
  have hfin : ∀ b, 0 ≤ ltf x y z b ∧ ltf x y z b < T.length := fun b => by
    have e : ∀ {v : Int}, inT T v = true → 0 ≤ v ∧ v < T.length := fun hv => by
      obtain ⟨a, rfl, ha⟩ := inT_iff.1 hv
      omega
    unfold ltf
    split
    · exact e hx
    · split
      · exact e hy
      · exact e hz
  have hall : ∀ j, j < (u.map (ltf x y z)).length → 0 ≤ el (u.map (ltf x y z)) j ∧ el (u.map (ltf x y z)) j < T.length := fun j hj => by
    have hj2 : j < u.length := by simpa using hj
    have : el (u.map (ltf x y z)) j = ltf x y z u[j] := by simp [el, hj2]
    rw [this]
    exact hfin _
  have HALL := hide hall
  have HPR := hide (prodT_ok (T := T) (xs := u.map (ltf x y z)) (okT_iff.2 k) (by rw [List.length_map]; omega) (okRow_iff.2 hall))
  clear hw hfin hx hy hz hall
  go_enter Try.func67, Try.ntmps67
  go_wp2
  go_loopg [5] u.length (fun g v wr => ∃ j : Nat, j ≤ u.length ∧ Hid (g = u.length - j) ∧ ARow (w.heap.size + 1) wr v (vrow (ltf x y z) u j) ∧ wr.heap[w.heap.size]? = some (.stringIter (bs u) j) ∧ Below w.heap.size w wr)
  case atStart => exact ⟨0, Nat.zero_le _, rfl, ARow.nil_ _ _, World.iter_heap _ _ _, (Below.refl _ w).alloc (Nat.le_refl _) _⟩
  case round =>
    obtain ⟨j, hj, hg, hR, hI, hB⟩ := hrel
    by_cases hlt : j < u.length
    · have hp : j < (bs u).size := by omega
      have hc1 := hok.out.1 _ (lt_mem hlt)
      have hst := step_one hlt hc1
      have hnx : ∀ ty, (Instr.next (.pointer (some ⟨w.heap.size, 0, none⟩)) true ty).run Try.prog wr = .ok (.tuple #[.bool true, .int .i64 j, .int .i32 (((lt u j).toNat : Nat) : Int)]) (wr.iterAt w.heap.size (bs u) (j + 1)) := fun ty => by
        rw [Lib.run_next_any_at wr w.heap.size (bs u) j ty hI hp, hst]
      have hI1 := Lib.iterAt_heap wr w.heap.size (bs u) j (j + 1) hI
      have hR1 := arow_iterAt hR hI (j + 1)
      have hB1 := Lib.below_iterAt hB (Nat.le_refl _) (bs u) (j + 1)
      have hs1 : w.heap.size + 1 ≤ (wr.iterAt w.heap.size (bs u) (j + 1)).heap.size := (Array.getElem?_eq_some_iff.1 hI1).1
      generalize wr.iterAt w.heap.size (bs u) (j + 1) = W at hnx hI1 hR1 hB1 hs1
      clear hst hR hI hB
      obtain ⟨cc, hc⟩ : ∃ cc, cc = lt u j := ⟨_, rfl⟩
      have HC := hide (congrArg (ltf x y z) hc)
      have HM := hide (vrow_succ (f := ltf x y z) hlt)
      rw [← hc] at hnx hc1
      clear hc
      have hl : (vrow (ltf x y z) u j).length ≤ 1048576 := by rw [len_vrow hj]; omega
      obtain ⟨Ar, cr, rfl, -, -, -⟩ := hR1.val
      rw [len_vrow hj] at hR1 ⊢
      have q0 := (hB1.cell (p := ⟨p, 0, none⟩) lp).trans p0
      have q1 := (hB1.cell (p := ⟨p, 1, none⟩) lp).trans p1
      have q2 := (hB1.cell (p := ⟨p, 2, none⟩) lp).trans p2
      clear p0 p1 p2
      rcases okC_iff.1 hc1 with rfl | rfl | rfl
      · have HF := hide (show ltf x y z 97 = x from rfl)
        go_wp2_with fail
        refine (num_any 97 W (by decide)).mono ?_
        rintro e w1 ⟨rfl, rfl⟩
        go_wp2_with (at_builtin; refine wp_app_int rfl (.tmp 13) (.tmp 18) rfl (w.heap.size + 1) _ _ _ 1 rfl rfl hR1 hl hs1 ?_; intro v2 w2 hown2 hg2)
        have hb2 := hR1.belowOf hg2 (Nat.le_refl _) hs1
        go_roundg (u.length - (j + 1))
        case measure => go_light; have := hg.out; omega
        case rel => go_light; exact ⟨j + 1, hlt, rfl, by rw [← HM.out, ← HC.out, HF.out]; exact hown2, (hb2.block w.heap.size (by omega)).trans hI1, hB1.trans (hb2.mono (by omega))⟩
      · have HF := hide (show ltf x y z 98 = y from rfl)
        go_wp2_with fail
        refine (num_any 98 W (by decide)).mono ?_
        rintro e w1 ⟨rfl, rfl⟩
        go_wp2_with (at_builtin; refine wp_app_int rfl (.tmp 13) (.tmp 18) rfl (w.heap.size + 1) _ _ _ 1 rfl rfl hR1 hl hs1 ?_; intro v2 w2 hown2 hg2)
        have hb2 := hR1.belowOf hg2 (Nat.le_refl _) hs1
        go_roundg (u.length - (j + 1))
        case measure => go_light; have := hg.out; omega
        case rel => go_light; exact ⟨j + 1, hlt, rfl, by rw [← HM.out, ← HC.out, HF.out]; exact hown2, (hb2.block w.heap.size (by omega)).trans hI1, hB1.trans (hb2.mono (by omega))⟩
      · have HF := hide (show ltf x y z 99 = z from rfl)
        go_wp2_with fail
        refine (num_any 99 W (by decide)).mono ?_
        rintro e w1 ⟨rfl, rfl⟩
        go_wp2_with (at_builtin; refine wp_app_int rfl (.tmp 13) (.tmp 18) rfl (w.heap.size + 1) _ _ _ 1 rfl rfl hR1 hl hs1 ?_; intro v2 w2 hown2 hg2)
        have hb2 := hR1.belowOf hg2 (Nat.le_refl _) hs1
        go_roundg (u.length - (j + 1))
        case measure => go_light; have := hg.out; omega
        case rel => go_light; exact ⟨j + 1, hlt, rfl, by rw [← HM.out, ← HC.out, HF.out]; exact hown2, (hb2.block w.heap.size (by omega)).trans hI1, hB1.trans (hb2.mono (by omega))⟩
    · obtain rfl : u.length = j := by omega
      have hnx : ∀ ty, (Instr.next (.pointer (some ⟨w.heap.size, 0, none⟩)) true ty).run Try.prog wr = .ok (.tuple #[.bool false]) wr := fun ty => Lib.run_next_end_at wr w.heap.size (bs u) u.length ty hI (by omega)
      have hl : (vrow (ltf x y z) u u.length).length = u.length := len_vrow (Nat.le_refl _)
      obtain ⟨Ar, cr, rfl, hc1, hc2, hRo⟩ := hR.val
      rw [hl] at hc1 ⊢
      rw [vrow_all] at hRo
      have hqq := (hB.cell (p := ⟨q, 0, none⟩) lq).trans hq
      have hm := h.below hB hh
      have hs := hB.size
      clear hR hI p0 p1 p2 hq h
      go_wp2_with fail
      refine (show Calls _ _ #[.slice Ar u.length cr, .func (.func 56) #[.agg #[.slice A T.length c]] #[]] wr _ from (by have := folded_any A Ar c cr lo hi _ _ T (u.map (ltf x y z)) wr hm (Nat.le_trans hh hs) k hRo (Nat.le_refl _) HALL.out (by rw [List.length_map]; omega) (by rw [List.length_map]; omega) (by rw [List.length_map]; exact hc1) hc2; rw [List.length_map] at this; exact this)).mono ?_
      rintro e w1 ⟨rfl, b1⟩
      go_wp2
      go_ret
      exact ⟨ret_int (by rw [HPR.out, List.length_map]), hB.trans (b1.mono hs)⟩

set_option maxRecDepth 20000 in
set_option maxHeartbeats 2000000 in
theorem valuing_any (A : Option Addr) (c n : Nat) (x y z : Int) (w : World) :
    Calls Try.prog 52 #[.agg #[.slice A n c], .agg #[.int .i64 x, .int .i64 y, .int .i64 z]] w fun e w' => ∃ p q : Nat, e = .returned (.func (.func 67) #[] #[.pointer (some ⟨p, 0, none⟩), .pointer (some ⟨q, 0, none⟩)]) ∧ Below w.heap.size w w' ∧
      w'.cell? ⟨p, 0, none⟩ = some (.int .i64 x) ∧ w'.cell? ⟨p, 1, none⟩ = some (.int .i64 y) ∧ w'.cell? ⟨p, 2, none⟩ = some (.int .i64 z) ∧ w'.cell? ⟨q, 0, none⟩ = some (.slice A n c) := by
  have b0 := (Below.refl w.heap.size w).alloc (Nat.le_refl _) (.cells #[.slice A n c] 57)
  have q0 : (w.alloc (.cells #[.slice A n c] 57)).cell? ⟨w.heap.size, 0, none⟩ = some (.slice A n c) := by simp
  have z0 : (w.alloc (.cells #[.slice A n c] 57)).heap.size = w.heap.size + 1 := by simp
  go_enter Try.func52, Try.ntmps52
  go_wp2
  go_ret
  generalize w.alloc (.cells #[.slice A n c] 57) = w0 at b0 q0 z0 ⊢
  have b1 := (Below.refl w0.heap.size w0).alloc (Nat.le_refl _) (.cells #[.int .i64 x, .int .i64 y, .int .i64 z] 47)
  have hR := pl3_new w0 47 x y z
  have q1 := (b1.cell (p := ⟨w.heap.size, 0, none⟩) (by show w.heap.size < _; omega)).trans q0
  rw [z0] at hR
  exact ⟨w.heap.size + 1, w.heap.size, rfl, b0.trans (b1.mono (by omega)), World.rowIs.cell hR (i := 0) (by omega), World.rowIs.cell hR (i := 1) (by omega), World.rowIs.cell hR (i := 2) (by omega), q1⟩

theorem okRow3 (T : List (List Int)) (a b c : Int) : okRow T.length [a, b, c] = (inT T a && (inT T b && inT T c)) := by
  rw [Bool.eq_iff_iff, okRow_iff, Bool.and_eq_true, Bool.and_eq_true]
  unfold inT
  simp only [Bool.and_eq_true, decide_eq_true_iff]
  constructor
  · intro h
    have h0 := h 0 (by simp)
    have h1 := h 1 (by simp)
    have h2 := h 2 (by simp)
    simp [el] at h0 h1 h2
    omega
  · rintro ⟨h0, h1, h2⟩ j hj
    have : j = 0 ∨ j = 1 ∨ j = 2 := by simp at hj; omega
    rcases this with rfl | rfl | rfl <;> simp [el] <;> omega
theorem row3 {w : World} {g : Nat} {t : TypeId} {a b c : Int} (h : w.rowIs g t 3 (pl3 a b c)) : Row w g (g + 1) (some ⟨g, 0, none⟩) [a, b, c] := fun j hj => by
  have h3 : j = 0 ∨ j = 1 ∨ j = 2 := by simp at hj; omega
  refine ⟨g, 0, rfl, Nat.le_refl _, by omega, ?_⟩
  rw [Nat.zero_add, World.rowIs.cell h (i := j) (by omega)]
  rcases h3 with rfl | rfl | rfl <;> rfl

set_option maxRecDepth 20000 in
set_option maxHeartbeats 4000000 in
theorem iValueIn_any (A : Option Addr) (ca lo hi : Nat) (T : List (List Int)) (u : List UInt8) (a b c : Int) (w : World) (h : Mat w lo hi A T) (hh : hi ≤ w.heap.size) (hS : Small T) (hn : u.length ≤ 1048576) :
    Calls Try.prog 32 #[.slice A T.length ca, .string (bs u), .int .i64 a, .int .i64 b, .int .i64 c] w fun e w' => e = .returned (.int .i64 (valW T u a b c)) ∧ Below w.heap.size w w' := by
  have hlT := hS.len
  have hR0 := pl3_new w 47 a b c
  have b0 := (Below.refl w.heap.size w).alloc (Nat.le_refl _) (.cells #[.int .i64 a, .int .i64 b, .int .i64 c] 47)
  have z0 : (w.alloc (.cells #[.int .i64 a, .int .i64 b, .int .i64 c] 47)).heap.size = w.heap.size + 1 := by simp
  have lw : w.heap.size < (w.alloc (.cells #[.int .i64 a, .int .i64 b, .int .i64 c] 47)).heap.size := by omega
  cases hw : okW u
  · have HF := hide (valW_not (T := T) (u := u) (a := a) (b := b) (c := c) (by rw [hw]; simp))
    go_enter Try.func32, Try.ntmps32
    go_wp2_with fail
    refine (iWordOk_any u _ hn).mono ?_
    rw [hw]
    rintro e w1 ⟨rfl, b1⟩
    go_wp2
    go_ret
    exact ⟨ret_int HF.out.symm, b0.trans (b1.mono (by omega))⟩
  cases hk : okT T
  · have HF := hide (show valW T u a b c = -1 from by unfold valW; rw [prodT_not (.inl hk)]; split <;> rfl)
    go_enter Try.func32, Try.ntmps32
    go_wp2_with fail
    refine (iWordOk_any u _ hn).mono ?_
    rw [hw]
    rintro e w1 ⟨rfl, b1⟩
    have B1 := b0.trans (b1.mono (by omega))
    go_wp2_with fail
    refine (iTableOk_any _ _ _ _ _ _ (h.below B1 hh) hS).mono ?_
    rw [hk]
    rintro e w2 ⟨rfl, rfl⟩
    go_wp2
    go_ret
    exact ⟨ret_int HF.out.symm, B1⟩
  have k := okT_iff.1 hk
  cases hr : okRow T.length [a, b, c]
  · have HF := hide (valW_not (T := T) (u := u) (a := a) (b := b) (c := c) (by rw [← okRow3, hr]; simp))
    go_enter Try.func32, Try.ntmps32
    go_wp2_with fail
    refine (iWordOk_any u _ hn).mono ?_
    rw [hw]
    rintro e w1 ⟨rfl, b1⟩
    have B1 := b0.trans (b1.mono (by omega))
    have hR1 := World.rowIs.of_block hR0 (b1.block w.heap.size lw)
    go_wp2_with fail
    refine (iTableOk_any _ _ _ _ _ _ (h.below B1 hh) hS).mono ?_
    rw [hk]
    rintro e w2 ⟨rfl, rfl⟩
    go_wp2_with fail
    refine (allThings_any (some ⟨w.heap.size, 0, none⟩) 3 _ _ T.length [a, b, c] _ (row3 hR1) (by simp) hlT).mono ?_
    rw [hr]
    rintro e w2 ⟨rfl, rfl⟩
    go_wp2
    go_ret
    exact ⟨ret_int HF.out.symm, B1⟩
  have hr3 := hr
  rw [okRow3, Bool.and_eq_true, Bool.and_eq_true] at hr3
  obtain ⟨ha, hb, hc⟩ := hr3
  have HF := hide (valW_ok hw ha hb hc)
  go_enter Try.func32, Try.ntmps32
  go_wp2_with fail
  refine (iWordOk_any u _ hn).mono ?_
  have HW := hide hw
  have HA := hide (And.intro ha (And.intro hb hc))
  clear ha hb hc
  rw [hw]
  rintro e w1 ⟨rfl, b1⟩
  clear hw
  have B1 := b0.trans (b1.mono (by omega))
  have hR1 := World.rowIs.of_block hR0 (b1.block w.heap.size lw)
  clear hR0 b0 b1
  go_wp2_with fail
  refine (iTableOk_any _ _ _ _ _ _ (h.below B1 hh) hS).mono ?_
  rw [hk]
  rintro e w2 ⟨rfl, rfl⟩
  go_wp2_with fail
  refine (allThings_any (some ⟨w.heap.size, 0, none⟩) 3 _ _ T.length [a, b, c] _ (row3 hR1) (by simp) hlT).mono ?_
  rw [hr]
  rintro e w2 ⟨rfl, rfl⟩
  have c0 : w1.cell? ⟨w.heap.size, 0, none⟩ = some (.int .i64 a) := World.rowIs.cell hR1 (i := 0) (by omega)
  have c1 : w1.cell? ⟨w.heap.size, 1, none⟩ = some (.int .i64 b) := World.rowIs.cell hR1 (i := 1) (by omega)
  have c2 : w1.cell? ⟨w.heap.size, 2, none⟩ = some (.int .i64 c) := World.rowIs.cell hR1 (i := 2) (by omega)
  clear hk hr hR1
  go_wp2_with fail
  refine (valuing_any A ca T.length a b c _).mono ?_
  rintro e w2 ⟨p, q, rfl, b2, p0, p1, p2, hq⟩
  have B2 := B1.trans (b2.mono B1.size)
  have hm := h.below B2 hh
  clear c0 c1 c2
  go_wp2_with fail
  refine (valued_any A ca lo hi p q T u a b c _ hm (Nat.le_trans hh B2.size) k HW.out HA.out.1 HA.out.2.1 HA.out.2.2 p0 p1 p2 hq).mono ?_
  rintro e w3 ⟨rfl, b3⟩
  go_wp2
  go_ret
  exact ⟨ret_int HF.out.symm, B2.trans (b3.mono B2.size)⟩
end Go.Proofs.Ytjpdfkmlcjkcmaa
