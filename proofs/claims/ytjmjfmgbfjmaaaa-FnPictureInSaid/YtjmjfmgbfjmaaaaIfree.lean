/-  -/
import Derived.Test.YtjmjfmgbfjmaaaaIfreeC
import Derived.Test.YtjmjfmgbfjmaaaaIword
import Derived.Test.YtjmjfmgbfjmaaaaORow
import Derived.Test.YtjmjfmgbfjmaaaaIlev2
import Derived.Test.YtjmjfmgbfjmaaaaFill
import Derived.Test.YtjmjfmgbfjmaaaaPureX
import Derived.Test.YtjmjfmgbfjmaaaaIsame
namespace Go.Proofs.Ytjmjfmgbfjmaaaa
open Go.RowKit
set_option linter.unusedVariables false
set_option linter.unusedSimpArgs false
attribute [local go_sem] Oper.semAt_some

theorem all_pre : ∀ {j k : Nat}, j ≤ k → allF j <+: allF k
  | j, 0, h => by obtain rfl : j = 0 := by omega
                  exact List.prefix_refl _
  | j, k + 1, h => by
    by_cases e : j = k + 1
    · subst e; exact List.prefix_refl _
    · exact (all_pre (j := j) (k := k) (by omega)).trans (List.prefix_append _ _)
theorem all_step {k N : Nat} {t : List (List UInt8)} {u : List UInt8} (hk : k + 1 ≤ N) (hp : t ++ [u] <+: fwF 3 (k + 1)) : (allF k ++ t) ++ [u] <+: allF N := by
  refine List.IsPrefix.trans ?_ (all_pre hk)
  rw [List.append_assoc]
  exact (List.prefix_append_right_inj _).2 hp

set_option maxRecDepth 100000 in
set_option maxHeartbeats 4000000 in
theorem first_hands (m bl : Nat) (h1 : 1 ≤ m) (h3 : m ≤ 3) (w : World) (hbl : w.heap[bl]? = some (.cells #[.int .i64 m] 3)) :
    Hands Try.prog 90 (fun l => #[] ++ #[.func (.yield l) #[] #[]] ++ #[.pointer (some ⟨bl, 0, none⟩)]) (fun u : List UInt8 => #[.string (bs u)]) (allF (2 ^ m - 1)) w := by
  intro l J Jx X W hW hX hJ hJx h0 hY n0
  have HY := hide hY
  have hblt : bl < w.heap.size := (Array.getElem?_eq_some_iff.1 hbl).1
  obtain ⟨w1, hw1⟩ : ∃ w1, w1 = W.alloc (.cells #[.func (.yield l) #[] #[]] 56) := ⟨_, rfl⟩
  have b1 : Below W.heap.size W w1 := by rw [hw1]; exact (Below.refl W.heap.size W).alloc (Nat.le_refl _) _
  have e1 : w1.heap[W.heap.size]? = some (.cells #[.func (.yield l) #[] #[]] 56) := by rw [hw1]; exact heap_alloc_new W _
  have z1 : w1.heap.size = W.heap.size + 1 := by rw [hw1]; simp
  have hsW := hW.size
  have eb : w1.heap[bl]? = some (.cells #[.int .i64 m] 3) := (b1.block _ (by omega)).trans ((hW.block _ hblt).trans hbl)
  have hj1 : J [] X w1 := hJ.move h0 (b1.mono (Nat.zero_le _)) (fun b hb hlt => b1.block b hlt)
  have hM1 : Mine [W.heap.size, bl] w1 X w1 := fun b hb => ⟨rfl, fun k => by
    have h1 := hJ.there h0 b k
    have h2 := hX b k
    simp only [List.mem_cons, List.not_mem_nil, or_false] at hb
    omega⟩
  obtain ⟨p1, p2⟩ := pow_int (p := m) (by omega)
  obtain ⟨M, hM⟩ : ∃ M : Nat, M = 2 ^ m := ⟨_, rfl⟩
  have hMi : (2 : Int) ^ m = (M : Int) := by rw [hM]; simp
  have hM8 : M ≤ 8 := by
    have : 2 ^ m ≤ 2 ^ 3 := Nat.pow_le_pow_right (by omega) h3
    omega
  have hM2 : 2 ≤ M := by
    have : 2 ^ 1 ≤ 2 ^ m := Nat.pow_le_pow_right (by omega) h1
    omega
  have hsh := hMi
  have HMM := hide hM
  have HW1 := hide hw1
  rw [hMi] at p1 p2
  rw [← hM] at HY ⊢
  clear hw1 hY hM hMi
  refine callsIn_of_wp_marks Try.func90 rfl trivial ?_ rfl
  simp only [Try.ntmps90, List.size_toArray, List.length_cons, List.length_nil, Nat.reduceAdd, Nat.reduceSub, Array.replicate_succ, Array.replicate_zero, List.push_toArray, List.append_toArray, List.nil_append, List.cons_append]
  gi_wp2
  rw [← HW1.out]
  refine wpIn_loop (fun a V => ∃ (k : Nat) (rs : List Nat) (Y : Nat → Prop) (v5 v6 v7 v8 v9 v10 v11 v12 : Value), k + 1 ≤ M ∧
      a = { tmps := #[.func (.yield l) #[] #[], .pointer (some ⟨bl, 0, none⟩), .pointer (some ⟨W.heap.size, 0, none⟩), .int .i64 (k + 1 : Nat), undef, v5, v6, v7, v8, v9, v10, v11, v12, undef, undef, undef, undef, undef], defers := rs.map markD } ∧
      Hid (J (allF k) Y V ∧ Mine [W.heap.size, bl] w1 Y V ∧ rs.Nodup ∧ ∀ r ∈ rs, V.heap[r]? = some (.deferred (some [])) ∧ ¬ Y r ∧ W.heap.size ≤ r))
    (fun a _ => M - (intOf (a.tmps.getD 3 undef)).toNat) ⟨0, [], X, undef, undef, undef, undef, undef, undef, undef, undef, by omega, rfl, hj1, hM1, List.nodup_nil, fun r hr => by cases hr⟩ ?_
  rintro a V ⟨k, rs, Y, v5, v6, v7, v8, v9, v10, v11, v12, hk, rfl, HI⟩
  clear hj1 hM1
  obtain ⟨hj, hm, hnd, hd⟩ := HI.out
  have lW : W.heap.size < V.heap.size := hm.lt (by simp) (by omega)
  have lB : bl < V.heap.size := hm.lt (by simp) (by omega)
  have cB : V.cell? ⟨bl, 0, none⟩ = some (.int .i64 m) := by rw [cell_of_row V bl 0 _ _ _ ((hm _ (by simp)).1.trans eb)]; rfl
  by_cases hlt : k + 1 < M
  · have hki : (k : Int) + 1 < (M : Int) := by omega
    have hrl : ∀ r ∈ rs, r < V.heap.size := fun r hr => (Array.getElem?_eq_some_iff.1 (hd r hr).1).1
    obtain ⟨O, hO⟩ : ∃ O, O = W.heap.size :: bl :: rs := ⟨_, rfl⟩
    have hOl : ∀ b ∈ O, b < V.heap.size := fun b hb => by
      rw [hO] at hb
      rcases List.mem_cons.1 hb with rfl | hb
      · omega
      rcases List.mem_cons.1 hb with rfl | hb
      · omega
      exact hrl b hb
    have hM2' : Mine O V Y V := fun b hb => ⟨rfl, fun q => by
      rw [hO] at hb
      rcases List.mem_cons.1 hb with rfl | hb
      · exact (hm _ (by simp)).2 q
      rcases List.mem_cons.1 hb with rfl | hb
      · exact (hm _ (by simp)).2 q
      exact (hd b hb).2.1 q⟩
    have mB : bl ∈ O := by rw [hO]; simp
    have mW : W.heap.size ∈ O := by rw [hO]; simp
    have mr : ∀ r ∈ rs, r ∈ O := fun r hr => by rw [hO]; simp [hr]
    have hWy : V.heap[W.heap.size]? = some (.cells #[.func (.yield l) #[] #[]] 56) := (hm _ (by simp)).1.trans e1
    have hBb : V.heap[bl]? = w1.heap[bl]? := (hm bl (by simp)).1
    have hr2 : ∀ r ∈ rs, V.heap[r]? = some (.deferred (some [])) := fun r hr => (hd r hr).1
    have hrW : ∀ r ∈ rs, W.heap.size ≤ r := fun r hr => (hd r hr).2.2
    have HO := hide hO
    have HND := hide hnd
    have HP := hide (fun (t : List (List UInt8)) (u : List UInt8) (hp : t ++ [u] <+: fwF 3 (k + 1)) => all_step (N := M - 1) (by omega) hp)
    clear hO hm hd hnd HI
    gi_wp2
    refine range_top (α := List UInt8) (gf := 52) (fa := #[.int .i64 (k + 1 : Nat)]) (lb := #[]) (enc := fun u => #[.string (bs u)]) (xs := fwF 3 (k + 1)) (w0 := bare V) rfl (enters_of Try.func52 (by kernel_rfl) rfl) (fun _ => rfl)
      (full_hands 3 (k + 1) (by omega) (by omega) (by omega) (num_le (by omega)) (bare V)) (below_bare V) (fun t Z U => J (allF k ++ t) Z U ∧ Mine O V Z U) (fun t Z U => Jx (allF k ++ t) Z U ∧ Mine O V Z U) Y
      (rests_mine (fun t => allF k ++ t) hJ (by omega) hOl) (rests_mine (fun t => allF k ++ t) hJx (by omega) hOl) (fun b hb => Nat.zero_le _) ⟨by rw [List.append_nil]; exact hj, hM2'⟩ ?round ?done ?stop
    case round =>
      intro l1 m1 hl1 t u Z U hI nX ltU hpre
      have HPRE := hide hpre
      clear hj hM2' hI hpre
      gi_wp2
      refine ⟨Kept.refl _ _ _, fun U2 r hb2 hz2 ho2 hl2 hi2 => ?_⟩
      obtain ⟨hJ2, hM2⟩ := hi2
      have cY : U2.cell? ⟨W.heap.size, 0, none⟩ = some (.func (.yield l) #[] #[]) := by rw [cell_of_row U2 W.heap.size 0 _ _ _ ((hM2 _ mW).1.trans hWy)]; rfl
      obtain ⟨fn', tm', as', bd', hy, hR⟩ := HY.out _ _ Z U2 (m1 - 1) hJ2 (HP.out t u HPRE.out)
      try dsimp only at hy
      have HG := hide (fun U4 Z4 h1 h2 h3 act => ends_go (J := J) (Ix := fun t Z U => Jx (allF k ++ t) Z U ∧ Mine O V Z U) (fun t => allF k ++ t) (t := t) (u := u) (x := u) (U3 := U2) (U4 := U4) (Z4 := Z4) (by rw [← List.append_assoc]) hM2 hOl rfl hz2.symm (Below.refl _ _) h1 h2 h3 act)
      have HX := hide (fun U4 Z4 h1 h2 h3 act => ends_ret (Jx := Jx) (I := fun t Z U => J (allF k ++ t) Z U ∧ Mine O V Z U) (fun t => allF k ++ t) (t := t) (u := u) (x := u) (U3 := U2) (U4 := U4) (Z4 := Z4) (by rw [← List.append_assoc]) hM2 hOl rfl hz2.symm (Below.refl _ _) h1 h2 h3 act)
      have HRR := hide hR
      clear hR hJ2 hM2 ho2 hb2 hl2
      gi_wp2
      refine ⟨(fun hd => by simp [Fence.wide] at hd), RoundIn.mono (show RoundIn (Fence.wide.inRound l1) (m1 - 1) _ _ _ _ _ _ _ _ from HRR.out) ?_⟩
      rintro e U4 ⟨Z4, hg4, hk4, ⟨rfl, hj4⟩ | ⟨rfl, hj4⟩⟩
      · gi_wp2
        exact HG.out U4 Z4 hg4 hk4 hj4 _
      · gi_wp2
        exact HX.out U4 Z4 hg4 hk4 hj4 _
    case done =>
      rintro Z U ⟨hj3, hM3⟩ nD hD
      have hN1 : (V.heap.size :: rs).Nodup := List.nodup_cons.2 ⟨fun h => by have := hrl _ h; omega, HND.out⟩
      have hM4 : Mine [W.heap.size, bl] w1 Z U := fun b hb => by
        rcases List.mem_cons.1 hb with rfl | hb
        · exact ⟨(hM3 _ mW).1.trans (hWy.trans e1.symm), (hM3 _ mW).2⟩
        · rw [List.mem_singleton] at hb
          subst hb
          exact ⟨(hM3 _ mB).1.trans hBb, (hM3 _ mB).2⟩
      have hd4 : ∀ r ∈ V.heap.size :: rs, U.heap[r]? = some (.deferred (some [])) ∧ ¬ Z r ∧ W.heap.size ≤ r := fun r hr => by
        rcases List.mem_cons.1 hr with rfl | hr
        · exact ⟨hD, nD, by omega⟩
        · exact ⟨(hM3 _ (mr r hr)).1.trans (hr2 r hr), (hM3 _ (mr r hr)).2, hrW r hr⟩
      have HF := hide (And.intro (show J (allF (k + 1)) Z U from hj3) (And.intro hM4 (And.intro hN1 hd4)))
      clear hj3 hM3 hD hN1 hM4 hd4 hj hM2'
      gi_wp2
      refine ⟨⟨k + 1, V.heap.size :: rs, Z, ?_⟩, ?_⟩
      · iterate 8 apply Exists.intro
        refine ⟨by omega, ?_, HF.out⟩
        rw [show ((k + 1 + 1 : Nat) : Int) = (k : Int) + 1 + 1 from by omega]
        rfl
      · simp [intOf]
        omega
    case stop =>
      rintro t Z U ⟨hj3, hM3⟩ nD hD
      gi_wp2
      refine leaves_marks (V.heap.size :: rs) U (List.nodup_cons.2 ⟨fun h => by have := hrl _ h; omega, HND.out⟩) (fun r hr => ?_) fun V' hl hs => ?_
      · rcases List.mem_cons.1 hr with rfl | hr
        · exact hD
        · exact (hM3 _ (mr r hr)).1.trans (hr2 r hr)
      · refine ⟨_, results_none rfl _ _ _, ⟨_, rfl⟩, .inr ⟨_, Z, hJx.move hj3 hl fun b hb hlt => hs b fun hr => ?_⟩⟩
        rcases List.mem_cons.1 hr with rfl | hr
        · rcases hb with hb | hb
          · omega
          · exact nD hb
        · rcases hb with hb | hb
          · have := hrW b hr; omega
          · exact (hM3 _ (mr b hr)).2 hb
  · obtain rfl : M = k + 1 := by omega
    gi_wp2
    refine leaves_marks rs V hnd (fun r hr => (hd r hr).1) fun V' hl hs => ?_
    exact ⟨_, results_none rfl _ _ _, ⟨_, rfl⟩, .inl ⟨Y, hJ.move (show J (allF (k + 1 - 1)) Y V from hj) hl fun b hb hlt => hs b fun hr => by
      obtain ⟨_, h2, h3⟩ := hd b hr
      rcases hb with hb | hb
      · omega
      · exact h2 hb⟩⟩

set_option maxHeartbeats 1000000 in
theorem iAllWords_any (m : Int) (w : World) : Calls Try.prog 22 #[.int .i64 m] w (OwnStr w (allW m)) := by
  cases hc : (decide (1 ≤ m) && decide (m ≤ 3))
  · have hf := hide (allW_not hc)
    by_cases h1 : m < 1
    · clear hc
      go_enter Try.func22, Try.ntmps22
      go_wp2
      go_ret
      rw [hf.out]
      exact ⟨none, 0, rfl, Below.refl _ _, OStr.nil _ _ _ _, Nat.le_refl _, by omega⟩
    · have h8 : m > 3 := by
        rw [Bool.and_eq_false_iff, decide_eq_false_iff_not, decide_eq_false_iff_not] at hc
        omega
      clear hc
      go_enter Try.func22, Try.ntmps22
      go_wp2
      go_ret
      rw [hf.out]
      exact ⟨none, 0, rfl, Below.refl _ _, OStr.nil _ _ _ _, Nat.le_refl _, by omega⟩
  · have h13 : 1 ≤ m ∧ m ≤ 3 := by simpa using hc
    obtain ⟨n, rfl⟩ : ∃ n : Nat, m = n := ⟨m.toNat, by omega⟩
    have hn1 : 1 ≤ n := by omega
    have hn3 : n ≤ 3 := by omega
    have h1 : ¬ ((n : Int) < 1) := by omega
    have h3 : ¬ ((n : Int) > 3) := by omega
    have hl : 0 < (allF (2 ^ n - 1)).length ∧ (allF (2 ^ n - 1)).length ≤ 159 := by
      have a1 : 2 ^ n ≤ 2 ^ 3 := Nat.pow_le_pow_right (by omega) hn3
      have a2 : 2 ^ 1 ≤ 2 ^ n := Nat.pow_le_pow_right (by omega) hn1
      exact all_len (by omega) (by omega)
    have HL := hide hl
    have HF := hide (srt_all hn1 hn3)
    obtain ⟨w1, hw1⟩ : ∃ w1, w1 = w.alloc (.cells #[.int .i64 n] 3) := ⟨_, rfl⟩
    have b1 : Below w.heap.size w w1 := by rw [hw1]; exact (Below.refl _ w).alloc (Nat.le_refl _) _
    have e1 : w1.heap[w.heap.size]? = some (.cells #[.int .i64 n] 3) := by rw [hw1]; exact heap_alloc_new w _
    have HW1 := hide hw1
    have hs1 := b1.size
    clear hc h13 hl hw1
    go_enter Try.func22, Try.ntmps22
    go_wp2_with fail
    refine (Calls.mono (R := fun e w' => e = .returned (.func (.func 90) #[] #[.pointer (some ⟨w.heap.size, 0, none⟩)]) ∧ w' = w1) ?_ ?_)
    · rw [HW1.out]
      go_enter Try.func61, Try.ntmps61
      go_wp2
      go_ret
      exact ⟨rfl, rfl⟩
    rintro e w2 ⟨rfl, rfl⟩
    go_wp2_with fail
    refine (sorted_any (w0 := w2) (xs := allF (2 ^ n - 1)) (fa := #[]) (lb := #[.pointer (some ⟨w.heap.size, 0, none⟩)]) (enters_of Try.func90 (by kernel_rfl) rfl) (first_hands n w.heap.size hn1 hn3 w2 e1) (Below.refl _ _) HL.out.1 (by have := HL.out.2; omega)).mono ?_
    rw [HF.out]
    rintro e w3 ⟨A, c, rfl, hB, hO, l1, l2⟩
    go_wp2
    go_ret
    exact ⟨A, c, rfl, b1.trans (hB.mono hs1), hO.mono hs1 (Nat.le_refl _), l1, l2⟩
end Go.Proofs.Ytjmjfmgbfjmaaaa

namespace Go.Proofs.Ytjmjfmgbfjmaaaa
open Go.RowKit Go.Lib
set_option linter.unusedVariables false
set_option linter.unusedSimpArgs false

set_option maxHeartbeats 1000000 in
theorem count_one (w : World) : Calls Try.prog 20 #[.int .i64 1] w fun e w' => e = .returned (.int .i64 1) ∧ Below w.heap.size w w' := by
  go_enter Try.func20, Try.ntmps20
  go_wp2
  go_ret
  exact ⟨rfl, Below.refl _ _⟩
set_option maxHeartbeats 1000000 in
theorem count_two (w : World) : Calls Try.prog 20 #[.int .i64 2] w fun e w' => e = .returned (.int .i64 4) ∧ Below w.heap.size w w' := by
  go_enter Try.func20, Try.ntmps20
  go_wp2_with fail
  refine (count_one _).mono ?_
  rintro e w1 ⟨rfl, b1⟩
  go_wp2
  go_ret
  exact ⟨rfl, b1⟩
set_option maxHeartbeats 1000000 in
theorem count_three (w : World) : Calls Try.prog 20 #[.int .i64 3] w fun e w' => e = .returned (.int .i64 144) ∧ Below w.heap.size w w' := by
  go_enter Try.func20, Try.ntmps20
  go_wp2_with fail
  refine (count_two _).mono ?_
  rintro e w1 ⟨rfl, b1⟩
  go_wp2
  go_ret
  exact ⟨rfl, b1⟩
set_option maxHeartbeats 1000000 in
theorem iCountFull_any (m : Int) (w : World) : Calls Try.prog 20 #[.int .i64 m] w fun e w' => e = .returned (.int .i64 (cntF m)) ∧ Below w.heap.size w w' := by
  by_cases e1 : m = 1
  · subst e1; exact count_one w
  by_cases e2 : m = 2
  · subst e2; exact count_two w
  by_cases e3 : m = 3
  · subst e3; exact count_three w
  have hc : cntF m = -1 := by unfold cntF; rw [if_neg e1, if_neg e2, if_neg e3]
  rw [hc]
  by_cases h1 : m < 1
  · clear hc e1 e2 e3
    go_enter Try.func20, Try.ntmps20
    go_wp2
    go_ret
    exact ⟨rfl, Below.refl _ _⟩
  · have h8 : m > 3 := by omega
    clear hc e1 e2 e3
    go_enter Try.func20, Try.ntmps20
    go_wp2
    go_ret
    exact ⟨rfl, Below.refl _ _⟩

/-- Words of two letters have no third one. -/
theorem two_third {k : Nat} (h : k < 6) (T : List (List Int)) (a b : Int) : (sl (allW 2) k).map (ltf a b b) = (sl (allW 2) k).map (ltf a b a) := by
  rw [allW_two]
  obtain rfl | rfl | rfl | rfl | rfl | rfl : k = 0 ∨ k = 1 ∨ k = 2 ∨ k = 3 ∨ k = 4 ∨ k = 5 := by omega
  all_goals rfl
theorem two_ok {k : Nat} (h : k < 6) : okW (sl (allW 2) k) = true := by
  have hh : ∀ k : Fin 6, okW (sl w2L k) = true := by decide +kernel
  rw [allW_two]
  exact hh ⟨k, h⟩
theorem picK {T : List (List Int)} {a b : Int} {k : Nat} (h : k < 6) (ha : inT T a = true) (hb : inT T b = true) : prodT T ((sl (allW 2) k).map (ltf a b b)) = valW T (sl (allW 2) k) a b a := by
  rw [two_third h T, valW_ok (two_ok h) ha hb ha]
theorem canP_row {T : List (List Int)} {a b : Int} (hk : okT T = true) : okRow T.length [a, b, b] = canP T a b := by
  rw [okRow3]
  unfold canP
  rw [hk]
  cases inT T a <;> cases inT T b <;> rfl

set_option maxRecDepth 20000 in
set_option maxHeartbeats 4000000 in
theorem iPictureIn_any (A : Option Addr) (c lo hi : Nat) (T : List (List Int)) (a b : Int) (w : World) (h : Mat w lo hi A T) (hh : hi ≤ w.heap.size) (hS : Small T) :
    Calls Try.prog 34 #[.slice A T.length c, .int .i64 a, .int .i64 b] w (OwnRow w (picW T a b)) := by
  have hlT := hS.len
  have hR0 := pl3_new w 60 a b b
  have b0 := (Below.refl w.heap.size w).alloc (Nat.le_refl _) (.cells #[.int .i64 a, .int .i64 b, .int .i64 b] 60)
  have z0 : (w.alloc (.cells #[.int .i64 a, .int .i64 b, .int .i64 b] 60)).heap.size = w.heap.size + 1 := by simp
  have lw : w.heap.size < (w.alloc (.cells #[.int .i64 a, .int .i64 b, .int .i64 b] 60)).heap.size := by omega
  cases hk : okT T
  · have HF := hide (picW_not (T := T) (a := a) (b := b) (by unfold canP; rw [hk]; rfl))
    go_enter Try.func34, Try.ntmps34
    go_wp2_with fail
    refine (iTableOk_any _ _ _ _ _ _ (h.below b0 hh) hS).mono ?_
    rw [hk]
    rintro e w2 ⟨rfl, rfl⟩
    go_wp2
    go_ret
    rw [HF.out]
    exact ⟨none, 0, rfl, b0, ORow.nil _ _ _ _, Nat.le_refl _, by omega⟩
  have k := okT_iff.1 hk
  cases hr : okRow T.length [a, b, b]
  · have HF := hide (picW_not (T := T) (a := a) (b := b) (by rw [← canP_row hk]; exact hr))
    go_enter Try.func34, Try.ntmps34
    go_wp2_with fail
    refine (iTableOk_any _ _ _ _ _ _ (h.below b0 hh) hS).mono ?_
    rw [hk]
    rintro e w2 ⟨rfl, rfl⟩
    go_wp2_with fail
    refine (allThings_any (some ⟨w.heap.size, 0, none⟩) 3 _ _ T.length [a, b, b] _ (row3 hR0) (by simp) hlT).mono ?_
    rw [hr]
    rintro e w2 ⟨rfl, rfl⟩
    go_wp2
    go_ret
    rw [HF.out]
    exact ⟨none, 0, rfl, b0, ORow.nil _ _ _ _, Nat.le_refl _, by omega⟩
  have hr3 := hr
  rw [okRow3, Bool.and_eq_true, Bool.and_eq_true] at hr3
  obtain ⟨ha, hb, _⟩ := hr3
  have HF := hide (picW_ok (T := T) (a := a) (b := b) (by rw [← canP_row hk]; exact hr))
  have HA := hide (And.intro ha hb)
  have HP := hide (fun (j : Nat) (hj : j < 6) => picK (T := T) hj ha hb)
  clear ha hb
  go_enter Try.func34, Try.ntmps34
  go_wp2_with fail
  refine (iTableOk_any _ _ _ _ _ _ (h.below b0 hh) hS).mono ?_
  rw [hk]
  rintro e w2 ⟨rfl, rfl⟩
  go_wp2_with fail
  refine (allThings_any (some ⟨w.heap.size, 0, none⟩) 3 _ _ T.length [a, b, b] _ (row3 hR0) (by simp) hlT).mono ?_
  rw [hr]
  rintro e w2 ⟨rfl, rfl⟩
  have c0 : (w.alloc (.cells #[.int .i64 a, .int .i64 b, .int .i64 b] 60)).cell? ⟨w.heap.size, 0, none⟩ = some (.int .i64 a) := World.rowIs.cell hR0 (i := 0) (by omega)
  have c1 : (w.alloc (.cells #[.int .i64 a, .int .i64 b, .int .i64 b] 60)).cell? ⟨w.heap.size, 1, none⟩ = some (.int .i64 b) := World.rowIs.cell hR0 (i := 1) (by omega)
  have c2 : (w.alloc (.cells #[.int .i64 a, .int .i64 b, .int .i64 b] 60)).cell? ⟨w.heap.size, 2, none⟩ = some (.int .i64 b) := World.rowIs.cell hR0 (i := 2) (by omega)
  clear hk hr hR0
  go_wp2_with fail
  refine (valuing_any A c T.length a b b _).mono ?_
  rintro e w2 ⟨p, q, rfl, b2, p0, p1, p2, hq⟩
  have B2 := b0.trans (b2.mono (by omega))
  have s2 := B2.size
  have lp := World.block_lt_of_cell? _ _ p0
  have lq := World.block_lt_of_cell? _ _ hq
  clear c0 c1 c2
  go_wp2_with fail
  refine (iAllWords_any 2 w2).mono ?_
  have h6 : (allW 2).length = 6 := by rw [allW_two]; rfl
  rw [show OwnStr w2 (allW 2) = fun e w' => ∃ A c, e = .returned (.slice A 6 c) ∧ Below w2.heap.size w2 w' ∧ OStr w' w2.heap.size w'.heap.size A (allW 2) ∧ 6 ≤ c ∧ c ≤ 9223372036854775807 from by unfold OwnStr; rw [h6]]
  rintro e w3 ⟨A3, c3, rfl, b3, hO, _, _⟩
  rcases hO with hO | ⟨g, rfl, g1, g2, hC⟩
  · omega
  have B3 := B2.trans (b3.mono s2)
  have s3 := b3.size
  have q0 := (b3.cell (p := ⟨p, 0, none⟩) lp).trans p0
  have q1 := (b3.cell (p := ⟨p, 1, none⟩) lp).trans p1
  have q2 := (b3.cell (p := ⟨p, 2, none⟩) lp).trans p2
  have qq := (b3.cell (p := ⟨q, 0, none⟩) lq).trans hq
  have HC := hide (fun j (hj : j < 6) => (hC j (by rw [h6]; exact hj)).1)
  clear hC p0 p1 p2 hq h6
  go_wp2
  go_loopg [32, 9] 6 (fun m i v wr => ∃ j : Nat, j ≤ 6 ∧ Hid (m = 6 - j) ∧ i = .int .i64 j ∧ Hid (ARow w3.heap.size wr v (picC T a b j)) ∧ Below w3.heap.size w3 wr)
  case atStart => exact ⟨0, Nat.zero_le _, rfl, rfl, ARow.nil_ _ _, Below.refl _ _⟩
  case round =>
    obtain ⟨j, hj, hgk, rfl, hA, hB⟩ := hrel
    have sB := hB.size
    by_cases hlt : j < 6
    · have hji : (j : Int) < 6 := by omega
      have hcell : wr.cell? ⟨g, j, none⟩ = some (.string (bs (sl (allW 2) j))) := (hB.cell (p := ⟨g, j, none⟩) g2).trans (HC.out j hlt)
      obtain ⟨u, hu⟩ : ∃ u, u = sl (allW 2) j := ⟨_, rfl⟩
      rw [← hu] at hcell
      have HU := hide hu
      have HOK := hide (show okW u = true by rw [hu]; exact two_ok hlt)
      clear hu
      go_wp2_with fail
      refine (valued_any A c lo hi p q T u a b b _ (h.below (B3.trans (hB.mono (by omega))) hh) (by omega) k HOK.out HA.out.1 HA.out.2 HA.out.2 ((hB.cell (p := ⟨p, 0, none⟩) (by show p < _; omega)).trans q0) ((hB.cell (p := ⟨p, 1, none⟩) (by show p < _; omega)).trans q1) ((hB.cell (p := ⟨p, 2, none⟩) (by show p < _; omega)).trans q2) ((hB.cell (p := ⟨q, 0, none⟩) (by show q < _; omega)).trans qq)).mono ?_
      rw [HU.out, HP.out j hlt]
      rintro e w4 ⟨rfl, b4⟩
      have hA4 : ARow w3.heap.size w4 u9 (picC T a b j) := hA.out.below b4
      have s4 := b4.size
      have hl4 := len_picC T a b j
      obtain ⟨z, hz⟩ : ∃ z, z = valW T (sl (allW 2) j) a b a := ⟨_, rfl⟩
      have HS := hide (show picC T a b j ++ [z] = picC T a b (j + 1) from by rw [hz]; exact picC_succ T a b j)
      rw [← hz]
      clear hcell hz
      go_wp2_with (at_builtin; refine wp_app_int rfl (.tmp 36) (.tmp 40) rfl w3.heap.size u9 (picC T a b j) z 1 rfl rfl hA4 (by omega) (by omega) ?_; intro v5 w5 hA5 hg5)
      have hB5 : Below w3.heap.size w3 w5 := (hB.trans (b4.mono sB)).trans (hA4.belowOf hg5 (Nat.le_refl _) (by omega))
      rw [HS.out] at hA5
      go_roundg (6 - (j + 1))
      case measure => go_light; have := hgk.out; omega
      case rel => go_light; exact ⟨j + 1, by omega, rfl, by go_num, hA5, hB5⟩
    · obtain rfl : j = 6 := by omega
      go_wp2
      go_ret
      obtain ⟨A6, c6, rfl, l6, m6, hO⟩ := hA.out.orow
      rw [HF.out]
      exact ⟨A6, c6, rfl, B3.trans (hB.mono (by omega)), hO.mono (by omega) (Nat.le_refl _), l6, m6⟩
end Go.Proofs.Ytjmjfmgbfjmaaaa

namespace Go.Proofs.Ytjmjfmgbfjmaaaa
open Go.RowKit
set_option linter.unusedVariables false
set_option linter.unusedSimpArgs false

section
variable {P : Program} {w W : World} {t k e : TypeId} {b clock i : Nat} {es : Array MapEntry} {x : ByteArray} {v : Value}
theorem updS_run (ht : P.underlying t = some (.map k e)) (hk : P.underlying k = some .string) (hM : MapAt w W b es clock) (hnew : Instr.findNow .string (.string x) es.toList 0 = some none) :
    ∃ W', (Instr.mapUpdate t (.map (some b)) (.string x) v).run P W = .ok () W' ∧ MapAt w W' b (es.push { key := .string x, val := v, born := clock }) (clock + 1) ∧ ∀ j, j ≠ b → W'.heap[j]? = W.heap[j]? := by
  obtain ⟨hb, h1, h2⟩ := hM
  refine ⟨{ W with heap := W.heap.setIfInBounds b (.map (es.push { key := .string x, val := v, born := clock }) (clock + 1)) }, ?_, ⟨(MapKept.heap_set hb).1, h1, ⟨h2.os, h2.tape, h2.output, by simpa using h2.size, fun j hj => ((MapKept.heap_set hb).2 j (by omega)).trans (h2.block j hj)⟩⟩, (MapKept.heap_set hb).2⟩
  simp [Instr.mapUpdate, run_underlying ht, MapKept.run_getObj_map hb, MapKept.run_checkKey (k := .string x) hk (by simp [MapKept.IsKey]), MapKept.run_findKey hk hnew, MapKept.run_setObj_map _ hb, Result.andThen]
end
/-- The first k words with their numbers. -/
def entS (L : List (List UInt8)) : Nat → List MapEntry
  | 0 => []
  | k + 1 => entS L k ++ [{ key := .string (bs (sl L k)), val := .int .i64 (k : Nat), born := k }]
section
variable {L : List (List UInt8)}
theorem len_entS : ∀ k, (entS L k).length = k
  | 0 => rfl
  | k + 1 => by rw [entS, List.length_append, len_entS k]; rfl
theorem entS_push (k : Nat) : (entS L k).toArray.push { key := .string (bs (sl L k)), val := .int .i64 (k : Nat), born := k } = (entS L (k + 1)).toArray := by simp [entS]
theorem same_bs (u v : List UInt8) : Instr.sameNow .string (.string (bs u)) (.string (bs v)) = some (decide (u = v)) := by
  have h : (bs u == bs v) = decide (u = v) := by
    rw [show (bs u == bs v) = (u.toArray == v.toArray) from rfl, Bool.eq_iff_iff, decide_eq_true_iff, beq_iff_eq]
    exact ⟨fun h => by have := congrArg Array.toList h; simpa using this, fun h => by rw [h]⟩
  simp only [Instr.sameNow, h]
/-- No word is there twice. -/
def Diff (L : List (List UInt8)) : Prop := ∀ i j, i < L.length → j < L.length → sl L i = sl L j → i = j
theorem findS_none (hd : Diff L) {a : Nat} (ha : a < L.length) : ∀ k i, k ≤ a → Instr.findNow .string (.string (bs (sl L a))) (entS L k) i = some none
  | 0, i, _ => rfl
  | k + 1, i, hk => by
    rw [entS, find_app _ _ _ (findS_none hd ha k i (by omega))]
    have e : decide (sl L a = sl L k) = false := decide_eq_false fun h => by have := hd a k ha (by omega) h; omega
    simp only [Instr.findNow, same_bs, e]
theorem findS_some (hd : Diff L) {a : Nat} (ha : a < L.length) : ∀ k, a < k → Instr.findNow .string (.string (bs (sl L a))) (entS L k) 0 = some (some (a, .int .i64 (a : Nat)))
  | 0, hk => absurd hk (Nat.not_lt_zero _)
  | k + 1, hk => by
    by_cases e : a = k
    · subst e
      rw [entS, find_app _ _ _ (findS_none hd ha a 0 (Nat.le_refl _)), len_entS]
      simp [Instr.findNow, same_bs]
    · rw [entS]
      exact find_hit _ _ _ (findS_some hd ha k (by omega))
end
theorem allW_diff {m : Int} (h : (decide (1 ≤ m) && decide (m ≤ 2)) = true) : Diff (allW m) := by
  rw [Bool.and_eq_true, decide_eq_true_iff, decide_eq_true_iff] at h
  obtain rfl | rfl : m = 1 ∨ m = 2 := by omega
  · rw [allW_one]
    have hh : ∀ i j : Fin 1, sl w1L i = sl w1L j → (i : Nat) = j := by decide +kernel
    exact fun i j hi hj => hh ⟨i, hi⟩ ⟨j, hj⟩
  · rw [allW_two]
    have hh : ∀ i j : Fin 6, sl w2L i = sl w2L j → (i : Nat) = j := by decide +kernel
    exact fun i j hi hj => hh ⟨i, hi⟩ ⟨j, hj⟩

set_option maxRecDepth 20000 in
set_option maxHeartbeats 4000000 in
theorem numbersOf_any (g c : Nat) (L : List (List UInt8)) (w : World) (hg : g < w.heap.size) (hC : ∀ j, j < L.length → w.cell? ⟨g, j, none⟩ = some (.string (bs (sl L j)))) (hd : Diff L) (hn : L.length ≤ 1048576) :
    Calls Try.prog 62 #[.slice (some ⟨g, 0, none⟩) L.length c] w fun e w' => e = .returned (.map (some w.heap.size)) ∧ MapAt w w' w.heap.size (entS L L.length).toArray L.length := by
  have hmm := @run_makeMap Try.prog
  have hM0 : MapAt w (w.alloc (.map #[] 0)) w.heap.size (entS L 0).toArray 0 := ⟨(MapKept.heap_alloc w _).1, Nat.le_refl _, (Below.refl w.heap.size w).alloc (Nat.le_refl _) _⟩
  have HD := hide hd
  have HC := hide hC
  clear hd hC
  go_enter Try.func62, Try.ntmps62
  go_wp2
  go_loopg [9] L.length (fun m i wr => ∃ p : Nat, p ≤ L.length ∧ Hid (m = L.length - p) ∧ i = .int .i64 p ∧ MapAt w wr w.heap.size (entS L p).toArray p)
  case atStart => exact ⟨0, Nat.zero_le _, rfl, rfl, hM0⟩
  case round =>
    obtain ⟨p, hp, hgk, rfl, hM⟩ := hrel
    clear hM0
    by_cases hlt : p < L.length
    · have hpi : (p : Int) < (L.length : Int) := by omega
      have hcell : wr.cell? ⟨g, p, none⟩ = some (.string (bs (sl L p))) := (hM.2.2.cell (p := ⟨g, p, none⟩) hg).trans (HC.out p hlt)
      obtain ⟨w2, hup, hM2, _⟩ := updS_run (v := .int .i64 (p : Nat)) Try.underlying66 Try.underlying9 hM (findS_none HD.out hlt p 0 (Nat.le_refl _))
      rw [entS_push] at hM2
      have HM2 := hide hM2
      clear hM hM2
      go_wp2
      go_roundg (L.length - (p + 1))
      case measure => go_light; have := hgk.out; omega
      case rel => go_light; exact ⟨p + 1, by omega, rfl, by go_num, HM2.out⟩
    · obtain rfl : p = L.length := by omega
      go_wp2
      go_ret
      exact ⟨rfl, hM⟩
/-- What the closure of the table reads: the map, the words, and what the map says of a product. -/
def Rd1 (w : World) (p q mb g c a b n : Nat) (L : List (List UInt8)) (z : Nat) (W : World) : Prop :=
  W.cell? ⟨p, 0, none⟩ = some (.map (some mb)) ∧ W.cell? ⟨q, 0, none⟩ = some (.slice (some ⟨g, 0, none⟩) n c) ∧ W.cell? ⟨g, a, none⟩ = some (.string (bs (sl L a))) ∧ W.cell? ⟨g, b, none⟩ = some (.string (bs (sl L b))) ∧
    (Instr.lookup 66 (.map (some mb)) (.string (bs (sl L z))) false).run Try.prog W = .ok (.int .i64 z) W ∧ Below w.heap.size w W

set_option maxRecDepth 20000 in
set_option maxHeartbeats 4000000 in
theorem free1_any (w0 w : World) (p q mb g c a b clock : Nat) (L : List (List UInt8)) (hF : FreeOk L) (hd : Diff L) (ha : a < L.length) (hb : b < L.length) (hp : p < w.heap.size) (hq : q < w.heap.size) (hg : g < w.heap.size)
    (cp : w.cell? ⟨p, 0, none⟩ = some (.map (some mb))) (cq : w.cell? ⟨q, 0, none⟩ = some (.slice (some ⟨g, 0, none⟩) L.length c)) (cc : ∀ j, j < L.length → w.cell? ⟨g, j, none⟩ = some (.string (bs (sl L j)))) (hM : MapAt w0 w mb (entS L L.length).toArray clock) :
    Calls Try.prog 64 #[.int .i64 a, .int .i64 b, .pointer (some ⟨p, 0, none⟩), .pointer (some ⟨q, 0, none⟩)] w fun e w' => e = .returned (.int .i64 (ixP L a b : Nat)) ∧ Below w.heap.size w w' := by
  obtain ⟨n, hn⟩ : ∃ n, n = L.length := ⟨_, rfl⟩
  obtain ⟨z, hz⟩ : ∃ z, z = ixP L a b := ⟨_, rfl⟩
  have hzl : z < L.length := by rw [hz]; exact hF.ix a b ha hb
  have hj : joinW (sl L a) (sl L b) = sl L z := by
    have h1 := hF.word a ha
    have h2 := hF.word b hb
    rw [joinW_ok (canJ_iff.2 ⟨h1.1, h2.1, by omega, by omega⟩)]
    have := hF.uniq z a b hzl ha hb
    rw [hz, decide_eq_true rfl, decide_eq_true_iff] at this
    rw [hz]
    exact this.symm
  have hla : (sl L a).length ≤ 1048576 := by have := (hF.word a ha).2; omega
  have hlb : (sl L b).length ≤ 1048576 := by have := (hF.word b hb).2; omega
  have mk : ∀ W, Below w.heap.size w W → Rd1 w p q mb g c a b n L z W := fun W hW => by
    refine ⟨(hW.cell (p := ⟨p, 0, none⟩) hp).trans cp, (hW.cell (p := ⟨q, 0, none⟩) hq).trans (by rw [hn]; exact cq), (hW.cell (p := ⟨g, a, none⟩) hg).trans (cc a ha), (hW.cell (p := ⟨g, b, none⟩) hg).trans (cc b hb), ?_, hW⟩
    exact look_run Try.underlying66 Try.underlying9 (hM.below hW) (findS_some hd hzl L.length hzl)
  have MK := hide mk
  have HJ := hide hj
  have a0 : (0 : Int) ≤ (a : Int) := by omega
  have a1 : (a : Int) < (n : Int) := by omega
  have b0 : (0 : Int) ≤ (b : Int) := by omega
  have b1 : (b : Int) < (n : Int) := by omega
  rw [← hz]
  clear hF hd cp cq cc hM mk hj hn hz hzl ha hb
  go_enter Try.func64, Try.ntmps64
  go_wp2_with fail
  go_region_held3 (fun W => W.cell? ⟨p, 0, none⟩ = some (.map (some mb)) ∧ W.cell? ⟨q, 0, none⟩ = some (.slice (some ⟨g, 0, none⟩) n c) ∧ W.cell? ⟨g, a, none⟩ = some (.string (bs (sl L a))) ∧ W.cell? ⟨g, b, none⟩ = some (.string (bs (sl L b))) ∧
      (Instr.lookup 66 (.map (some mb)) (.string (bs (sl L z))) false).run Try.prog W = .ok (.int .i64 z) W ∧ Below w.heap.size w W)
    (first
      | exact MK.out _ (Below.refl _ _).drew
      | exact MK.out _ ((Below.refl w.heap.size w).drew.trans (by assumption))
      | (go_split_ands
         exact MK.out _ (Below.trans (by assumption) (Below.mono (by assumption) (Below.size (by assumption))))))
    (first
      | (go_at_call 65
         refine (iJoinedOf_any _ _ _ hla hlb).mono ?_
         rw [HJ.out]
         rintro e w1 ⟨rfl, hb⟩))
  go_wp2
  go_ret
  go_split_ands
  exact ⟨rfl, by assumption⟩
theorem freeT_tab {m : Int} (h : (decide (1 ≤ m) && decide (m ≤ 2)) = true) : freeT m = tabOf (allW m).length fun a b => ((ixP (allW m) a b : Nat) : Int) := freeT_ok h

set_option maxRecDepth 20000 in
set_option maxHeartbeats 4000000 in
theorem iFreeTable_any (m : Int) (w : World) : Calls Try.prog 27 #[.int .i64 m] w (OwnTab w (freeT m)) := by
  cases hc : (decide (1 ≤ m) && decide (m ≤ 2))
  · have hf := hide (freeT_not hc)
    by_cases h1 : m < 1
    · clear hc
      go_enter Try.func27, Try.ntmps27
      go_wp2
      go_ret
      refine ⟨none, 0, by rw [hf.out]; rfl, Below.refl _ _, ?_⟩
      rw [hf.out]; exact OMat.nil _ _ _ _
    · have h8 : m > 2 := by
        rw [Bool.and_eq_false_iff, decide_eq_false_iff_not, decide_eq_false_iff_not] at hc
        omega
      clear hc
      go_enter Try.func27, Try.ntmps27
      go_wp2
      go_ret
      refine ⟨none, 0, by rw [hf.out]; rfl, Below.refl _ _, ?_⟩
      rw [hf.out]; exact OMat.nil _ _ _ _
  · have h12 : 1 ≤ m ∧ m ≤ 2 := by simpa using hc
    have h1 : ¬ m < 1 := by omega
    have h2 : ¬ m > 2 := by omega
    have HF := hide (freeOk hc)
    have HD := hide (allW_diff hc)
    have HT := hide (freeT_tab hc)
    have hl := HF.out.len
    have hcf : ∀ (args : Array Value) (w : World), (callFunc 64 args).run Try.prog w = .ok (.enter 64 args) w := fun args w => by kernel_rfl
    have HCF := hide hcf
    clear hc h12 hcf
    go_enter Try.func27, Try.ntmps27
    go_wp2_with fail
    refine (iAllWords_any m w).mono ?_
    rintro e w1 ⟨A1, c1, rfl, b1, hO, _, _⟩
    rcases hO with hO | ⟨g, rfl, g1, g2, hC⟩
    · omega
    have s1 := b1.size
    obtain ⟨n, hn⟩ : ∃ n, n = (allW m).length := ⟨_, rfl⟩
    obtain ⟨w2, hw2⟩ : ∃ w2, w2 = w1.alloc (.cells #[.slice (some ⟨g, 0, none⟩) n c1] 24) := ⟨_, rfl⟩
    have b2 : Below w1.heap.size w1 w2 := by rw [hw2]; exact (Below.refl _ w1).alloc (Nat.le_refl _) _
    have z2 : w1.heap.size < w2.heap.size := by rw [hw2]; simp
    have q2 : w2.cell? ⟨w1.heap.size, 0, none⟩ = some (.slice (some ⟨g, 0, none⟩) n c1) := by rw [hw2]; simp
    have hC2 : ∀ j, j < (allW m).length → w2.cell? ⟨g, j, none⟩ = some (.string (bs (sl (allW m) j))) := fun j hj => (b2.cell (p := ⟨g, j, none⟩) g2).trans (hC j hj).1
    have HW2 := hide hw2
    have HC2 := hide hC2
    have HN := hide hn
    have HN2 := hide (numbersOf_any g c1 (allW m) w2 (by omega) hC2 HD.out (by omega))
    rw [← hn] at HN2 ⊢
    clear hw2 hC hC2 hn
    go_wp2_with fail
    rw [← HW2.out]
    refine HN2.out.mono ?_
    rintro e w3 ⟨rfl, hM⟩
    have s3 := hM.2.2.size
    have l3 : w2.heap.size < w3.heap.size := (Array.getElem?_eq_some_iff.1 hM.1).1
    obtain ⟨w4, hw4⟩ : ∃ w4, w4 = w3.alloc (.cells #[.map (some w2.heap.size)] 66) := ⟨_, rfl⟩
    have b4 : Below w3.heap.size w3 w4 := by rw [hw4]; exact (Below.refl _ w3).alloc (Nat.le_refl _) _
    have z4 : w3.heap.size < w4.heap.size := by rw [hw4]; simp
    have p4 : w4.cell? ⟨w3.heap.size, 0, none⟩ = some (.map (some w2.heap.size)) := by rw [hw4]; simp
    have q3 := (hM.2.2.cell (p := ⟨w1.heap.size, 0, none⟩) (by show w1.heap.size < _; omega)).trans q2
    have q4 := (b4.cell (p := ⟨w1.heap.size, 0, none⟩) (by show w1.heap.size < _; omega)).trans q3
    have B24 : Below w2.heap.size w2 w4 := hM.2.2.trans (b4.mono s3)
    have hM4 := hM.below b4
    have hC4 : ∀ j, j < (allW m).length → w4.cell? ⟨g, j, none⟩ = some (.string (bs (sl (allW m) j))) := fun j hj => (B24.cell (p := ⟨g, j, none⟩) (by show g < _; omega)).trans (HC2.out j hj)
    have HW4 := hide hw4
    have hn9 : n ≤ 9 := by rw [HN.out]; omega
    have HR := hide (fun (wr : World) (a b : Nat) (ha : a < n) (hb : b < n) (hbl : Below w4.heap.size w4 wr) =>
      free1_any w2 wr w3.heap.size w1.heap.size w2.heap.size g c1 a b n (allW m) HF.out HD.out (by rw [← HN.out]; exact ha) (by rw [← HN.out]; exact hb) (by have := hbl.size; omega) (by have := hbl.size; omega) (by have := hbl.size; omega)
        ((hbl.cell (p := ⟨w3.heap.size, 0, none⟩) (by show w3.heap.size < _; omega)).trans p4) (by rw [← HN.out]; exact (hbl.cell (p := ⟨w1.heap.size, 0, none⟩) (by show w1.heap.size < _; omega)).trans q4) (fun j hj => (hbl.cell (p := ⟨g, j, none⟩) (by show g < _; omega)).trans (hC4 j hj)) (by rw [← HN.out]; exact hM4.below hbl))
    clear hw4 hM4 hC4 hM p4 q2 q3
    have q3 : (w3.alloc (.cells #[.map (some w2.heap.size)] 66)).cell? ⟨w1.heap.size, 0, none⟩ = some (.slice (some ⟨g, 0, none⟩) n c1) := by rw [← HW4.out]; exact q4
    go_wp2_with fail
    rw [← HW4.out]
    refine (filledRows_any 64 #[.pointer (some ⟨w3.heap.size, 0, none⟩), .pointer (some ⟨w1.heap.size, 0, none⟩)] n (fun a b => ((ixP (allW m) a b : Nat) : Int)) w4 hn9 HCF.out (fun wr a b ha hb hbl => HR.out wr a b ha hb hbl)).mono ?_
    rintro e w5 ⟨rfl, b5, o5⟩
    go_wp2
    go_ret
    have B4 : Below w.heap.size w w4 := (b1.trans (b2.mono s1)).trans (B24.mono (by omega))
    refine ⟨some ⟨w4.heap.size, 0, none⟩, n, ret_slice (by rw [HT.out, len_tabOf, HN.out]), B4.trans (b5.mono B4.size), ?_⟩
    rw [HT.out, ← HN.out]
    exact o5.mono B4.size (Nat.le_refl _)
end Go.Proofs.Ytjmjfmgbfjmaaaa

namespace Go.Proofs.Ytjmjfmgbfjmaaaa
end Go.Proofs.Ytjmjfmgbfjmaaaa
