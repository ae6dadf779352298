/-  -/
import Derived.LoopNIn
import Derived.LoopIn
import Derived.Test.YtnchipcpeeofaaaMQ10
import Derived.Test.YtnchipcpeeofaaaMQ08
import Derived.Test.YtnchipcpeeofaaaMQ16
import Derived.Test.YtnchipcpeeofaaaMQ07
namespace Go.Proofs.Ytnchipcpeeofaaa
open Go.RowKit
set_option linter.unusedVariables false
set_option linter.unusedSimpArgs false

/-- The least number of which something is true. -/
theorem least_ex {p : Nat → Prop} : ∀ {q : Nat}, p q → ∃ q, p q ∧ ∀ r, p r → q ≤ r := by
  intro q
  induction q using Nat.strongRecOn with
  | _ q ih =>
    intro hq
    by_cases h : ∃ r, r < q ∧ p r
    · obtain ⟨r, hr, hp⟩ := h
      exact ih r hr hp
    · exact ⟨q, hq, fun r hr => by
        rcases Nat.lt_or_ge r q with hlt | hge
        · exact absurd ⟨r, hlt, hr⟩ h
        · exact hge⟩
open Classical in
noncomputable def least (p : Nat → Prop) : Nat := if h : ∃ q, p q ∧ ∀ r, p r → q ≤ r then Classical.choose h else 0
theorem least_spec {p : Nat → Prop} {q : Nat} (h : p q) : p (least p) := by
  have h' := least_ex h
  unfold least
  rw [dif_pos h']
  exact (Classical.choose_spec h').1
theorem least_le {p : Nat → Prop} {q : Nat} (h : p q) : least p ≤ q := by
  have h' := least_ex h
  unfold least
  rw [dif_pos h']
  exact (Classical.choose_spec h').2 q h
theorem Only.low {lo hi : Nat} {w w' : World} (h : Only lo hi w w') : Below 0 w w' := ⟨h.os, h.tape, h.output, h.size, fun k hk => absurd hk (Nat.not_lt_zero _)⟩

/-- Under way: k rows are handed, and the next one lies in the iterator's block. -/
structure RowsW (J : List Nat → (Nat → Prop) → World → Prop) (w : World) (bl g n m k : Nat) (Z : Nat → Prop) (V : World) : Prop where
  inv : J (List.range k) Z V
  row : DigR V g n (dgt m k)
  none : ¬ Z g
  cap : ∀ b, b = bl ∨ b = bl + 1 → V.heap[b]? = w.heap[b]? ∧ ¬ Z b

set_option maxRecDepth 100000 in
set_option maxHeartbeats 4000000 in
theorem mapRows_hands (bl n m : Nat) (hn1 : 1 ≤ n) (hn : n ≤ 4) (hm : 0 < m) (hm4 : m ≤ 4) (w : World) (e1 : w.heap[bl]? = some (.cells #[.int .i64 n] 3)) (e2 : w.heap[bl + 1]? = some (.cells #[.int .i64 m] 3)) :
    HandsM Try.prog 85 (fun l => #[] ++ #[.func (.yield l) #[] #[]] ++ #[.pointer (some ⟨bl, 0, none⟩), .pointer (some ⟨bl + 1, 0, none⟩)]) (digL m n) (List.range (m ^ n)) (fun b => b = bl ∨ b = bl + 1) w := by
  intro l J Jx X W hW hX hJ hJx h0 hY n0
  have l1 : bl < w.heap.size := (Array.getElem?_eq_some_iff.1 e1).1
  have l2 : bl + 1 < w.heap.size := (Array.getElem?_eq_some_iff.1 e2).1
  have sW := hW.size
  have hcap : ∀ V : World, (∀ b, b = bl ∨ b = bl + 1 → V.heap[b]? = w.heap[b]?) → V.cell? ⟨bl, 0, none⟩ = some (.int .i64 n) ∧ V.cell? ⟨bl + 1, 0, none⟩ = some (.int .i64 m) := fun V hV =>
    ⟨by rw [cell_of_row V bl 0 _ _ _ ((hV bl (.inl rfl)).trans e1)]; rfl, by rw [cell_of_row V (bl + 1) 0 _ _ _ ((hV (bl + 1) (.inr rfl)).trans e2)]; rfl⟩
  have hWc : ∀ b, b = bl ∨ b = bl + 1 → W.heap[b]? = w.heap[b]? := fun b hb => hW.block b (by omega)
  obtain ⟨cW1, cW2⟩ := hcap W hWc
  have hXl := hJ.there h0
  obtain ⟨W1, hW1⟩ : ∃ W1, W1 = W.alloc (.cells (madeCells #[.int .i64 0] n) 3) := ⟨_, rfl⟩
  have b1 : Below W.heap.size W W1 := by rw [hW1]; exact (Below.refl W.heap.size W).alloc (Nat.le_refl _) _
  have hN1 : 0 < m ^ n := Nat.pow_pos hm
  have HR := hide (show RowsW J w bl W.heap.size n m 0 X W1 from ⟨hJ.move h0 (b1.mono (Nat.zero_le _)) (fun b _ hlt => b1.block b hlt),
    by rw [hW1]; exact (World.rowIs_made W _ n 3).congr (fun j _ => by rw [dgt_zero hm]; rfl), fun k => by have := hXl _ k; omega, fun b hb => ⟨(b1.block b (by omega)).trans (hWc b hb), fun k => hX b k hb⟩⟩)
  have hmk := run_make_row' (P := Try.prog) 24 3 (.int .i64 0) 8 Try.underlying24 info_int rfl .i64 .i64 n (by omega) (by omega)
  have HY := hide hY
  have HC := hide hcap
  have HW1 := hide hW1
  have HS := hide (And.intro l1 (And.intro l2 sW))
  have HX := hide (And.intro hXl hX)
  have HJJ := hide (And.intro hJ hJx)
  have HN1 := hide hN1
  clear hY hcap hW1 l1 l2 sW hXl hX hWc b1 h0 hN1 hW e1 e2
  refine callsIn_of_wp Try.func85 rfl trivial ?_ rfl
  simp only [Try.ntmps85, List.size_toArray, List.length_cons, List.length_nil, Nat.reduceAdd, Nat.reduceSub, Array.replicate_succ, Array.replicate_zero, List.push_toArray, List.append_toArray, List.nil_append, List.cons_append]
  gi_wp2
  rw [← HW1.out]
  clear hmk cW1 cW2
  gi_loopw [] (fun wr => ∃ (q k : Nat) (Z : Nat → Prop), k < m ^ n ∧ q = m ^ n - k ∧ Hid (RowsW J w bl W.heap.size n m k Z wr)) (fun wr => least (fun q => ∃ (k : Nat) (Z : Nat → Prop), k < m ^ n ∧ q = m ^ n - k ∧ Hid (RowsW J w bl W.heap.size n m k Z wr)))
  case atStart => exact ⟨_, 0, X, HN1.out, rfl, HR.out⟩
  case round =>
    clear HR HN1
    obtain ⟨q, hq⟩ := hrel
    have hlow := least_spec (p := fun q => ∃ (k : Nat) (Z : Nat → Prop), k < m ^ n ∧ q = m ^ n - k ∧ Hid (RowsW J w bl W.heap.size n m k Z wr)) hq
    obtain ⟨k, Z, hk, hleast, HI⟩ := hlow
    have HL := hide hleast
    clear hleast hq
    have lg := World.rowIs.lt HI.out.row
    obtain ⟨fn', tm', as', bd', hy, hRy⟩ := HY.out (List.range k) k #[.slice (some ⟨W.heap.size, 0, none⟩) n n] Z wr (n0 - 1) HI.out.inv (range_pre hk) ⟨W.heap.size, Nat.le_refl _, lg, HI.out.none, by rw [len_digL], HI.out.row.cells⟩
    rw [← List.range_succ] at hRy
    have HRY := hide hRy
    have HK := hide hk
    clear hRy hk lg
    try dsimp only at hy
    gi_wp2
    refine ⟨(fun hd => by simp [Fence.wide] at hd), RoundIn.mono (show RoundIn Fence.wide (n0 - 1) _ _ _ _ _ _ _ _ from HRY.out) ?_⟩
    rintro e U4 ⟨Z4, hg4, hk4, ⟨rfl, hj4⟩ | ⟨rfl, hj4⟩⟩
    · have lg := World.rowIs.lt HI.out.row
      have hs4 := hk4.low.size
      have hZ4 : ∀ b, b < wr.heap.size → ¬ Z b → ¬ Z4 b := fun b hb hz k => by
        rcases hg4 b k with k | k
        · exact hz k
        · omega
      have HD4 := hide (show DigR U4 W.heap.size n (dgt m k) from World.rowIs.of_block HI.out.row (hk4.same _ lg HI.out.none))
      have hcap4 : ∀ b, b = bl ∨ b = bl + 1 → U4.heap[b]? = w.heap[b]? ∧ ¬ Z4 b := fun b hb => by
        have hs := HS.out
        have hc := HI.out.cap b hb
        exact ⟨(hk4.same b (by omega) hc.2).trans hc.1, hZ4 b (by omega) hc.2⟩
      obtain ⟨_, c2⟩ := HC.out U4 (fun b hb => (hcap4 b hb).1)
      have HCP := hide hcap4
      have HZ := hide (hZ4 _ lg HI.out.none)
      have HJ4 := hide hj4
      have HS4 := hide (Nat.lt_of_lt_of_le lg hs4)
      clear hcap4 hZ4 hj4 hs4 lg hk4 hg4 hy HRY
      gi_wp2_with fail
      refine ⟨trivial, (fun hd => by simp [Fence.wide] at hd), (callsIn_wide.2 (countUp_any W.heap.size n m k U4 HD4.out hm (by omega) (by omega) HK.out)).mono ?_⟩
      rintro e U5 ⟨rfl, hd5, ho5⟩
      have HD5 := hide hd5
      have HO5 := hide ho5
      have hs5 := HS.out
      have HJ5 := hide (HJJ.out.1.move HJ4.out ho5.low (fun b hb hlt => ho5.block b hlt (by
        rcases hb with hb | hb
        · omega
        · have : b ≠ W.heap.size := fun e => HZ.out (e ▸ hb)
          omega)))
      have HCP5 := hide (show ∀ b, b = bl ∨ b = bl + 1 → U5.heap[b]? = w.heap[b]? ∧ ¬ Z4 b from fun b hb => ⟨(ho5.block b (by have := HS4.out; omega) (by omega)).trans (HCP.out b hb).1, (HCP.out b hb).2⟩)
      clear hd5 ho5 hs5 c2
      by_cases hlt : k + 1 < m ^ n
      · have hdt : decide (k + 1 < m ^ n) = true := decide_eq_true hlt
        have HLT := hide hlt
        clear hlt
        rw [hdt]
        gi_wp2
        go_roundw
        case rel => exact ⟨_, k + 1, Z4, HLT.out, rfl, HJ5.out, HD5.out, HZ.out, HCP5.out⟩
        case measure =>
          refine Nat.lt_of_le_of_lt (least_le (q := m ^ n - (k + 1)) ⟨k + 1, Z4, HLT.out, rfl, HJ5.out, HD5.out, HZ.out, HCP5.out⟩) ?_
          rw [HL.out]
          have := HLT.out
          omega
      · have hdf : decide (k + 1 < m ^ n) = false := decide_eq_false hlt
        have HLT := hide (show k + 1 = m ^ n from by have := HK.out; omega)
        clear hlt
        rw [hdf]
        gi_wp2
        refine bodyPost_ret (results_none rfl _ _ _) rfl ?_
        exact ⟨⟨_, rfl⟩, .inl ⟨Z4, by rw [← HLT.out]; exact HJ5.out⟩⟩
    · clear hy HRY
      gi_wp2
      refine ⟨trivial, ?_⟩
      gi_wp2
      refine bodyPost_ret (results_none rfl _ _ _) rfl ?_
      exact ⟨⟨_, rfl⟩, .inr ⟨_, Z4, hj4⟩⟩
end Go.Proofs.Ytnchipcpeeofaaa

namespace Go.Proofs.Ytnchipcpeeofaaa
open Go.RowKit
set_option linter.unusedVariables false
set_option linter.unusedSimpArgs false
attribute [local go_sem] Oper.semAt_some

theorem mapRows_any (n m : Nat) (w : World) : Calls Try.prog 73 #[.int .i64 n, .int .i64 m] w fun e w' =>
    e = .returned (.func (.func 85) #[] #[.pointer (some ⟨w.heap.size, 0, none⟩), .pointer (some ⟨w.heap.size + 1, 0, none⟩)]) ∧ w' = (w.alloc (.cells #[.int .i64 n] 3)).alloc (.cells #[.int .i64 m] 3) := by
  have hmf : ∀ (fn : Fn) (first cap : Array Value) (w : World), (Instr.makeFunc fn first cap).run Try.prog w = .ok (.func fn first cap) w := fun _ _ _ _ => rfl
  go_enter Try.func73, Try.ntmps73
  go_wp2
  go_ret
  exact ⟨rfl, rfl⟩

/-- Under way: both tables, and the count so far. -/
structure WayK (w : World) (A : Option Addr) (c : Nat) (T : List (List Int)) (B : Option Addr) (c2 : Nat) (U : List (List Int)) (cnt : Nat) (X : Nat → Prop) (V : World) : Prop where
  low : Below w.heap.size w V
  bt : Boxed V w.heap.size 23 (.slice A T.length c)
  bu : Boxed V (w.heap.size + 1) 23 (.slice B U.length c2)
  cn : Boxed V (w.heap.size + 2) 3 (.int .i64 (cnt : Nat))
  own : ∀ b, X b ↔ b = w.heap.size + 2
section
variable {w V V' : World} {A B : Option Addr} {c c2 cnt : Nat} {T U : List (List Int)} {X : Nat → Prop}
theorem WayK.move (h : WayK w A c T B c2 U cnt X V) {L : Nat} (hB : w.heap.size + 3 ≤ L) (hl : Below 0 V V') (hs : ∀ b, (b < L ∨ X b) → b < V.heap.size → V'.heap[b]? = V.heap[b]?) : WayK w A c T B c2 U cnt X V' :=
  ⟨⟨hl.os.trans h.low.os, hl.tape.trans h.low.tape, hl.output.trans h.low.output, Nat.le_trans h.low.size hl.size, fun k hk => (hs k (.inl (by omega)) (by have := h.low.size; omega)).trans (h.low.block k hk)⟩,
   (hs _ (.inl (by omega)) h.bt.lt).trans h.bt, (hs _ (.inl (by omega)) h.bu.lt).trans h.bu, (hs _ (.inl (by omega)) h.cn.lt).trans h.cn, h.own⟩
theorem WayK.below (h : WayK w A c T B c2 U cnt X V) (hb : Below V.heap.size V V') : WayK w A c T B c2 U cnt X V' :=
  ⟨h.low.trans (hb.mono h.low.size), bxBelowI h.bt hb, bxBelowI h.bu hb, bxBelowI h.cn hb, h.own⟩
theorem WayK.put (h : WayK w A c T B c2 U cnt X V) (n : Nat) : WayK w A c T B c2 U n X (V.setCell ⟨w.heap.size + 2, 0, none⟩ (.int .i64 (n : Nat))) :=
  ⟨h.low.setCell (p := ⟨w.heap.size + 2, 0, none⟩) (by simp) _, bxOtherI h.bt _ (by omega), bxOtherI h.bu _ (by omega), h.cn.set _, h.own⟩
end
theorem rests_wayK (w : World) (A : Option Addr) (c : Nat) (T : List (List Int)) (B : Option Addr) (c2 : Nat) (U : List (List Int)) (L : Nat) (hB : w.heap.size + 3 ≤ L) : Rests L (fun (s : List Nat) X V => WayK w A c T B c2 U (keepN T U s.length) X V) :=
  ⟨fun h b hb => by have := (h.own b).1 hb; subst this; exact h.cn.lt, fun h hl hs => h.move hB hl hs⟩
theorem keepN_next (T U : List (List Int)) (k : Nat) : keepN T U (k + 1) = keepN T U k + (if keepB T U (digL U.length T.length k) = true then 1 else 0) := rfl

set_option maxRecDepth 100000 in
set_option maxHeartbeats 8000000 in
theorem iCountKeeping_any (A : Option Addr) (c lo hi : Nat) (T : List (List Int)) (B : Option Addr) (c2 lo2 hi2 : Nat) (U : List (List Int)) (w : World) (h : Mat w lo hi A T) (hh : hi ≤ w.heap.size) (hS : Small T) (h2 : Mat w lo2 hi2 B U) (hh2 : hi2 ≤ w.heap.size) (hS2 : Small U) :
    Calls Try.prog 32 #[.slice A T.length c, .slice B U.length c2] w fun e w' => e = .returned (.int .i64 (countK T U)) ∧ Below w.heap.size w w' := by
  have hlT := hS.len
  have hlU := hS2.len
  obtain ⟨w1, hw1⟩ : ∃ w1, w1 = (w.alloc (.cells #[.slice A T.length c] 23)).alloc (.cells #[.slice B U.length c2] 23) := ⟨_, rfl⟩
  have b1 : Below w.heap.size w w1 := by rw [hw1]; exact below_twiceI w _ _
  have z1 : w1.heap.size = w.heap.size + 2 := by rw [hw1]; simp
  have x1 : Boxed w1 w.heap.size 23 (.slice A T.length c) := by rw [hw1]; exact (Boxed.new w _ _).alloc _
  have x2 : Boxed w1 (w.heap.size + 1) 23 (.slice B U.length c2) := by
    have := Boxed.new (w.alloc (.cells #[.slice A T.length c] 23)) 23 (.slice B U.length c2)
    rw [World.size_alloc] at this
    rw [hw1]; exact this
  have hT1 := h.below b1 hh
  have hU1 := h2.below b1 hh2
  have c1 := x1.cell
  have d1 := x2.cell
  have HW1 := hide hw1
  have HB1 := hide b1
  have HZ1 := hide z1
  clear hw1 b1 z1
  cases hkT : okT T
  · have HE := hide (countK_not (show canC T U = false from by unfold canC; rw [hkT]; rfl))
    go_enter Try.func32, Try.ntmps32
    go_wp2_with fail
    rw [← HW1.out]
    refine (iTableOk_any _ _ _ _ _ _ hT1 hS).mono ?_
    rw [hkT]
    rintro e w' ⟨rfl, rfl⟩
    go_wp2
    go_ret
    exact ⟨ret_int HE.out.symm, HB1.out⟩
  cases hkU : okT U
  · have HE := hide (countK_not (show canC T U = false from by unfold canC; rw [hkT, hkU]; rfl))
    go_enter Try.func32, Try.ntmps32
    go_wp2_with fail
    rw [← HW1.out]
    refine (iTableOk_any _ _ _ _ _ _ hT1 hS).mono ?_
    rw [hkT]
    rintro e w' ⟨rfl, rfl⟩
    go_wp2_with fail
    refine (iTableOk_any _ _ _ _ _ _ hU1 hS2).mono ?_
    rw [hkU]
    rintro e w' ⟨rfl, rfl⟩
    go_wp2
    go_ret
    exact ⟨ret_int HE.out.symm, HB1.out⟩
  by_cases hT4 : 4 < T.length
  · have HE := hide (countK_not (show canC T U = false from by unfold canC; rw [decide_eq_false (show ¬ T.length ≤ 4 by omega)]; simp))
    go_enter Try.func32, Try.ntmps32
    go_wp2_with fail
    rw [← HW1.out]
    refine (iTableOk_any _ _ _ _ _ _ hT1 hS).mono ?_
    rw [hkT]
    rintro e w' ⟨rfl, rfl⟩
    go_wp2_with fail
    refine (iTableOk_any _ _ _ _ _ _ hU1 hS2).mono ?_
    rw [hkU]
    rintro e w' ⟨rfl, rfl⟩
    go_wp2
    go_ret
    exact ⟨ret_int HE.out.symm, HB1.out⟩
  by_cases hU4 : 4 < U.length
  · have HE := hide (countK_not (show canC T U = false from by unfold canC; rw [decide_eq_false (show ¬ U.length ≤ 4 by omega)]; simp))
    go_enter Try.func32, Try.ntmps32
    go_wp2_with fail
    rw [← HW1.out]
    refine (iTableOk_any _ _ _ _ _ _ hT1 hS).mono ?_
    rw [hkT]
    rintro e w' ⟨rfl, rfl⟩
    go_wp2_with fail
    refine (iTableOk_any _ _ _ _ _ _ hU1 hS2).mono ?_
    rw [hkU]
    rintro e w' ⟨rfl, rfl⟩
    go_wp2
    go_ret
    exact ⟨ret_int HE.out.symm, HB1.out⟩
  have kT := okT_iff.1 hkT
  have kU := okT_iff.1 hkU
  have HE := hide (countK_ok (canC_iff.2 ⟨kT, kU, by omega, by omega⟩))
  have HK := hide (And.intro kT kU)
  have t1 := kT.lo
  have u1 := kU.lo
  obtain ⟨w2, hw2⟩ : ∃ w2, w2 = w1.alloc (.cells #[.int .i64 0] 3) := ⟨_, rfl⟩
  obtain ⟨w3, hw3⟩ : ∃ w3, w3 = (w2.alloc (.cells #[.int .i64 T.length] 3)).alloc (.cells #[.int .i64 U.length] 3) := ⟨_, rfl⟩
  have b2 : Below w1.heap.size w1 w2 := by rw [hw2]; exact (Below.refl _ _).alloc (Nat.le_refl _) _
  have b3 : Below w2.heap.size w2 w3 := by rw [hw3]; exact below_twiceI w2 _ _
  have z2 : w2.heap.size = w.heap.size + 3 := by rw [hw2]; have := HZ1.out; simp; omega
  have z3 : w3.heap.size = w.heap.size + 5 := by rw [hw3]; simp; omega
  have x3 : Boxed w2 (w.heap.size + 2) 3 (.int .i64 ((0 : Nat) : Int)) := by rw [hw2, ← HZ1.out]; exact Boxed.new w1 _ _
  have e3 : w3.heap[w.heap.size + 3]? = some (.cells #[.int .i64 (T.length : Nat)] 3) := by
    rw [hw3, ← z2]
    exact (Below.heap_alloc _ _ _ (by simp)).trans (heap_alloc_new w2 _)
  have e4 : w3.heap[w.heap.size + 3 + 1]? = some (.cells #[.int .i64 (U.length : Nat)] 3) := by
    rw [hw3, ← z2]
    have := heap_alloc_new (w2.alloc (.cells #[.int .i64 T.length] 3)) (.cells #[.int .i64 U.length] 3)
    rwa [World.size_alloc] at this
  have HRH := hide (mapRows_hands (w.heap.size + 3) T.length U.length t1 (by omega) u1 (by omega) w3 e3 e4)
  have HWY := hide (show WayK w A c T B c2 U (keepN T U 0) (fun b => b = w.heap.size + 2) w3 from
    ⟨HB1.out.trans ((b2.mono HB1.out.size).trans (b3.mono (by have := HB1.out.size; have := b2.size; omega))), bxBelowI (bxBelowI x1 b2) b3, bxBelowI (bxBelowI x2 b2) b3, bxBelowI x3 b3, fun b => Iff.rfl⟩)
  have hcT : w2.cell? ⟨w.heap.size, 0, none⟩ = some (.slice A T.length c) := (bxBelowI x1 b2).cell
  have hcU : w2.cell? ⟨w.heap.size + 1, 0, none⟩ = some (.slice B U.length c2) := (bxBelowI x2 b2).cell
  rw [hw2] at hcT hcU
  have HW2 := hide hw2
  have HW3 := hide hw3
  have HZ2 := hide z2
  have HZ3 := hide z3
  have HH := hide (And.intro h (And.intro hh (And.intro h2 hh2)))
  have HN := hide (fun (k : Nat) (hk : k < U.length ^ T.length) => (Nat.le_trans (keepN_le (T := T) (U := U) k) (Nat.le_trans (Nat.le_of_lt hk) (pow_le4 (by omega) (by omega))) : keepN T U k ≤ 256))
  clear hw2 hw3 b2 b3 z2 z3 x1 x2 x3 e3 e4 h hh h2 hh2 kT kU
  refine (callsIn_wide (n := 9)).1 ?_
  refine callsIn_of_wp_marks Try.func32 rfl trivial ?_ rfl
  simp only [Try.ntmps32, List.size_toArray, List.length_cons, List.length_nil, Nat.reduceAdd, Nat.reduceSub, Array.replicate_succ, Array.replicate_zero, List.push_toArray, List.append_toArray, List.nil_append, List.cons_append]
  gi_wp2_with fail
  rw [← HW1.out]
  refine ⟨trivial, (callsIn_wide.2 (iTableOk_any _ _ _ _ _ _ hT1 hS)).mono ?_⟩
  rw [hkT]
  rintro e w' ⟨rfl, rfl⟩
  gi_wp2_with fail
  refine ⟨trivial, (callsIn_wide.2 (iTableOk_any _ _ _ _ _ _ hU1 hS2)).mono ?_⟩
  rw [hkU]
  rintro e w' ⟨rfl, rfl⟩
  clear hkT hkU hT1 hU1
  have q1 : decide ((4 : Int) < (T.length : Int)) = false := decide_eq_false (by omega)
  have q2 : decide ((4 : Int) < (U.length : Int)) = false := decide_eq_false (by omega)
  have q3 : (T.length : Int) ≤ 4 := by omega
  have q4 : (U.length : Int) ≤ 4 := by omega
  gi_wp2_with fail
  rw [← HW2.out]
  refine ⟨trivial, (callsIn_wide.2 (mapRows_any T.length U.length w2)).mono ?_⟩
  rintro e w' ⟨rfl, hw'⟩
  rw [← HW3.out] at hw'
  replace hw' := hw'.symm
  subst hw'
  rw [HZ2.out]
  clear c1 d1 hcT hcU
  gi_wp2
  try rw [HZ1.out]
  refine range_topM (α := Nat) (gf := 85) (fa := #[]) (lb := #[.pointer (some ⟨w.heap.size + 3, 0, none⟩), .pointer (some ⟨w.heap.size + 3 + 1, 0, none⟩)]) (row := digL U.length T.length) (xs := List.range (U.length ^ T.length)) (C := fun b => b = w.heap.size + 3 ∨ b = w.heap.size + 3 + 1) (w0 := w3) rfl (enters_of Try.func85 (by kernel_rfl) rfl) rfl HRH.out (Below.refl _ _)
    (fun s X V => WayK w A c T B c2 U (keepN T U s.length) X V) (fun s X V => False) (fun b => b = w.heap.size + 2)
    (rests_wayK w A c T B c2 U _ (by have := HZ3.out; omega)) (rests_false _) (fun b hb => by have := HZ3.out; omega) (fun b hb => by omega) HWY.out ?round ?done ?stop
  case round =>
    intro l1 m1 hl1 t k vs X V lo_ hI nX ltV hpre hlo hH
    obtain ⟨hk, rfl⟩ := pre_range hpre
    obtain ⟨g, hg1, hg2, hg3, rfl, hg4⟩ := hH
    clear hpre hI
    obtain ⟨f, hf⟩ : ∃ f, f = digL U.length T.length k := ⟨_, rfl⟩
    rw [← hf] at hg4 ⊢
    have HF := hide hf
    clear hf
    gi_wp2
    refine ⟨Kept.refl _ _ _, fun V2 r hb2 hz2 ho2 hl2 hi2 hH2 => ?_⟩
    rw [List.length_range] at hi2
    obtain ⟨g', _, hg5, hg6, heq, hg7⟩ := hH2
    have hgg : g' = g := by
      simp at heq
      exact heq.symm
    subst hgg
    have HM := hide (show IsM T U f from by rw [HF.out]; exact isM_dig HK.out.1 HK.out.2 k)
    have ct := hi2.bt.cell
    have cu := hi2.bu.cell
    have HWA := hide hi2
    have HG := hide (And.intro hg5 (And.intro hg6 hg7))
    have HZ2' := hide hz2
    have HKK := hide hk
    clear hb2 ho2 hi2 hg1 hg2 hg3 hg4 hg5 hg6 hg7 heq hz2 hk
    gi_wp2_with fail
    refine ⟨trivial, (fun hd => by simp [Fence.wide] at hd), (CallsIn.inRound _ (callsIn_wide.2 (mapKeepsAll_any A c lo hi T B c2 lo2 hi2 U (some ⟨g', 0, none⟩) f.length g' (g' + 1) f V2 (HH.out.1.below HWA.out.low HH.out.2.1) (Nat.le_trans HH.out.2.1 HWA.out.low.size) (HH.out.2.2.1.below HWA.out.low HH.out.2.2.2) (Nat.le_trans HH.out.2.2.2 HWA.out.low.size) (HG.out.2.2.row (Nat.le_refl _) (Nat.lt_succ_self _)) HG.out.1 HM.out))).mono ?_⟩
    rintro e V3 ⟨rfl, b3⟩
    have HW3' := hide (HWA.out.below b3)
    have HB3 := hide b3
    clear ct cu b3
    have hkb : keepB T U f = allRR T.length (keepAt T U f) := by
      have := mapB_iff.2 HM.out
      unfold keepB; rw [this, Bool.true_and]
    cases hd : allRR T.length (keepAt T U f)
    · have hnx : keepN T U (k + 1) = keepN T U k := by rw [keepN_next, ← HF.out, hkb, hd]; simp
      have HNX := hide hnx
      clear hnx hkb hd
      gi_wp2
      refine ⟨X, fun b hb => .inl hb, (Kept.of HB3.out _).mono (by have := HZ2'.out; omega) (fun b hb => hb), ?_⟩
      show WayK w A c T B c2 U (keepN T U (List.range k ++ [k]).length) X _
      rw [List.length_append, List.length_range, List.length_singleton, HNX.out]
      exact HW3'.out
    · have hnx : keepN T U (k + 1) = keepN T U k + 1 := by rw [keepN_next, ← HF.out, hkb, hd]; simp
      have HNX := hide hnx
      have h256 := HN.out k HKK.out
      have cc := HW3'.out.cn.cell
      have ff := HW3'.out.cn.frozen
      have HPUT := hide (HW3'.out.put (keepN T U k + 1))
      clear hnx hkb hd
      gi_wp2
      have q := HWA.out
      have z3 := HB3.out.size
      have z2' := HZ2'.out
      refine ⟨X, fun b hb => .inl hb, ⟨(HB3.out.mono (Nat.zero_le _)).trans ((Below.refl 0 _).setCell (p := ⟨w.heap.size + 2, 0, none⟩) (Nat.zero_le _) _), fun b hb hx => (Below.heap_setCell _ _ _ b (fun e => hx ((q.own b).2 e))).trans (HB3.out.block b (by omega))⟩, ?_⟩
      show WayK w A c T B c2 U (keepN T U (List.range k ++ [k]).length) X _
      rw [List.length_append, List.length_range, List.length_singleton, HNX.out]
      exact HPUT.out
  case done =>
    rintro X V hw nD hD
    rw [List.length_range] at hw
    have cf := hw.cn.cell
    have HWW := hide hw
    clear hw
    gi_wp2
    refine ⟨by simp, .inl ⟨_, _, rfl, run_takeDeferred hD, ?_⟩⟩
    refine ⟨_, results_tmp rfl _ _ _, ?_, HWW.out.low.trans (below_putI _ (by have := HZ3.out; omega))⟩
    rw [HE.out]
    rfl
  case stop =>
    rintro s X V hw
    exact hw.elim
end Go.Proofs.Ytnchipcpeeofaaa
