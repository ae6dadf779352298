/-  -/
import Derived.Test.YthllbekoidogpaaAlw12
import Derived.Test.YthllbekoidogpaaAlw02
import Derived.Test.YthllbekoidogpaaAlw06
import Derived.Deep.RegionHeld3
import Derived.Deep.Slices
import Derived.Test.YthllbekoidogpaaAlw11
import Derived.Test.YthllbekoidogpaaAlw03
import Derived.Deep.DeepCutAuto
import Derived.Deep.CutBlock
namespace Go.Proofs.Ythllbekoidogpaa
open Go.RowKit
set_option linter.unusedVariables false


/-- A step that gives a word. -/
def WordStep (w wi : World) (B g P : Nat) (A : Option Addr) (n c : Nat) (e : Ending) (wj : World) : Prop :=
  ∃ u P', e = .returned (.string (bs u)) ∧ u.length ≤ 40 ∧ St w wj B g P' A n c ∧ P' ≤ P + 40 ∧ Only g (g + 1) wi wj
set_option maxHeartbeats 1000000 in
theorem odd0_any (g : Nat) (w : World) : Calls Try.prog 99 #[.pointer (some ⟨g, 0, none⟩), .int .i64 0] w fun e w' => e = .returned (.bool false) ∧ w = w' := by
  go_enter Try.func99, Try.ntmps99
  go_wp2
  go_ret
  exact ⟨rfl, rfl⟩
set_option maxRecDepth 20000 in
set_option maxHeartbeats 4000000 in
theorem word_st {w wi : World} {B g P n c : Nat} {A : Option Addr} (most m : Int) (s : St w wi B g P A n c) (hP : P ≤ 5000) (h1 : 1 ≤ most) (h30 : most ≤ 30) (hm0 : 0 ≤ m) (hm : m ≤ 1000) :
    Calls Try.prog 80 #[.pointer (some ⟨g, 0, none⟩), .int .i64 most, .int .i64 m] wi (WordStep w wi B g P A n c) := by
  go_enter Try.func80, Try.ntmps80
  go_wp2_with fail
  refine (pick_st 3 s (by omega) (by omega) (by omega)).mono ?_
  rintro e_ w1 ⟨ls, rfl, hls, s1, o1⟩
  go_wp2_with fail
  refine (pick_st most s1 (by omega) (by omega) (by omega)).mono ?_
  rintro e_ w2 ⟨k2, rfl, hk2, s2, o2⟩
  have O2 := o1.trans o2
  go_wp2
  go_loopg [9, 8] (k2 + 1) (fun gk i v wr => ∃ (j : Nat) (u : List UInt8) (P' : Nat), Hid (gk = j) ∧ Hid (j + u.length ≤ 30) ∧ i = .int .i64 j ∧ v = .string (bs u) ∧ St w wr B g P' A n c ∧ Hid (P' + j ≤ P + 35) ∧ Only g (g + 1) wi wr)
  case atStart => exact ⟨k2 + 1, [], _, rfl, (show k2 + 1 + 0 ≤ 30 from by omega), by first | rfl | (exact congrArg _ (by omega)), rfl, s2, (show P + 1 + 1 + (k2 + 1) ≤ P + 35 from by omega), O2⟩
  case round =>
    clear s1 s2 o1 o2 O2
    obtain ⟨j, u, P', hg, hl, rfl, rfl, sj, hPj, hO⟩ := hrel
    have hl' := hl.out
    have hP' := hPj.out
    by_cases hj : (j : Int) > 0
    · go_wp2_with fail
      refine (pick_st (1 + (ls : Int)) sj (by omega) (by omega) (by omega)).mono ?_
      rintro e_ w3 ⟨a, rfl, ha, s3, o3⟩
      have ha3 : a < [97, 98, 99].length := by simp; omega
      have hx : ∀ w, (Instr.slice 9 (.string ⟨#[97, 98, 99]⟩) (some (.int .i64 (a : Int))) (some (.int .i64 ((a : Int) + 1))) none).run Try.prog w = .ok (.string (bs [lt [97, 98, 99] a])) w := fun w => slice_one Try.underlying9 [97, 98, 99] (a : Int) ((a : Int) + 1) a rfl rfl ha3 w
      have hap := app_bs u [lt [97, 98, 99] a]
      have hz1 : (bs u).size = u.length := size_bs u
      have hz2 : (bs [lt [97, 98, 99] a]).size = 1 := by rw [size_bs]; rfl
      obtain ⟨V2, hV2⟩ : ∃ V2, V2 = bs [lt [97, 98, 99] a] := ⟨_, rfl⟩
      rw [← hV2] at hap hz2 hx
      have HA := hide hap
      obtain ⟨i, rfl⟩ : ∃ i, j = i + 1 := ⟨j - 1, by omega⟩
      have e0 : ((i + 1 : Nat) : Int) - 1 = (i : Int) := by omega
      have hul : u.length ≤ 30 := by omega
      have hadd : ∀ w, (Op.stringOp .add (bs u) V2).run Try.prog w = .ok (.string (bs u ++ V2)) w := fun w => run_string_add_sum w _ _ (by rw [hz1, hz2]; omega)
      clear hV2 hap ha3 hz1 hz2
      go_wp2
      go_roundg i
      case measure => go_light; have := hg.out; omega
      case rel => go_light; exact ⟨i, u ++ [lt [97, 98, 99] a], _, rfl, (show i + (u ++ [lt [97, 98, 99] a]).length ≤ 30 from by rw [List.length_append]; simp; omega), by first | rfl | (exact congrArg _ (by omega)), congrArg Value.string HA.out, s3, (show P' + 1 + i ≤ P + 35 from by omega), hO.trans o3⟩
    · obtain rfl : j = 0 := by omega
      clear hj
      by_cases hmz : m = 0
      · subst hmz
        go_wp2_with fail
        refine (odd0_any g _).mono ?_
        rintro e w_ ⟨rfl, rfl⟩
        have hu30 : u.length ≤ 30 := by omega
        go_wp2
        go_ret
        exact ⟨u, P', rfl, by omega, sj, by omega, hO⟩
      · go_wp2_with fail
        refine (odd_any B g P' A n c m _ sj.rd (by omega) (by omega) hm).mono ?_
        rintro e w4 ⟨⟨b4, rfl⟩, r4, o4, _⟩
        have s4 : St w w4 B g (P' + 1) A n c := ⟨r4, sj.only.trans o4, sj.lt⟩
        have O4 := hO.trans o4
        have hu30 : u.length ≤ 30 := by omega
        have hadd : ∀ w, (Op.stringOp .add (bs u) ⟨#[100]⟩).run Try.prog w = .ok (.string (bs (u ++ [100]))) w := fun w => by
          rw [run_string_add_sum w _ _ (by rw [size_bs]; show u.length + 1 ≤ _; omega)]
          exact congrArg (fun s => Result.ok (Value.string s) w) (app_bs u [100])
        cases b4
        · go_wp2
          go_ret
          exact ⟨u, P' + 1, rfl, by omega, s4, by omega, O4⟩
        · have s5 := s4.below ((Below.refl w4.heap.size w4).alloc (Nat.le_refl _) (.cells #[.string ⟨#[]⟩, .string (bs (u ++ [100])), .string ⟨#[97, 97, 97, 97, 97, 97, 97, 97, 97, 97, 97, 97, 97, 97, 97, 97, 97, 97, 97, 97, 97, 97, 97, 97, 97]⟩, .string ⟨#[65]⟩] 9))
          go_wp2_with fail
          refine (pick_st 4 s5 (by omega) (by omega) (by omega)).mono ?_
          rintro e_ w6 ⟨a, rfl, ha, s6, o6⟩
          have hg4 := s4.lt
          have hz4 := s4.only.size
          have hb6 : w6.heap[w4.heap.size]? = (w4.alloc (.cells #[.string ⟨#[]⟩, .string (bs (u ++ [100])), .string ⟨#[97, 97, 97, 97, 97, 97, 97, 97, 97, 97, 97, 97, 97, 97, 97, 97, 97, 97, 97, 97, 97, 97, 97, 97, 97]⟩, .string ⟨#[65]⟩] 9)).heap[w4.heap.size]? := o6.block w4.heap.size (by simp) (.inr (by omega))
          have FIN := hide (fun (v : List UInt8) (hv : v.length ≤ 40) => (show WordStep w wi B g P A n c (.returned (.string (bs v))) w6 from ⟨v, _, rfl, hv, s6, by omega, (O4.trans (Only.of_below ((Below.refl w4.heap.size w4).alloc (Nat.le_refl _) _))).trans o6⟩))
          obtain rfl | rfl | rfl | rfl : a = 0 ∨ a = 1 ∨ a = 2 ∨ a = 3 := by omega
          · have hc : w6.cell? ⟨w4.heap.size, 0, none⟩ = some (.string ⟨#[]⟩) := (World.cell?_of_block hb6).trans (by simp)
            clear hb6
            go_wp2
            go_ret
            exact FIN.out [] (by simp)
          · have hc : w6.cell? ⟨w4.heap.size, 1, none⟩ = some (.string (bs (u ++ [100]))) := (World.cell?_of_block hb6).trans (by simp)
            clear hb6
            go_wp2
            go_ret
            exact FIN.out (u ++ [100]) (by rw [List.length_append]; simp; omega)
          · have hc : w6.cell? ⟨w4.heap.size, 2, none⟩ = some (.string ⟨#[97, 97, 97, 97, 97, 97, 97, 97, 97, 97, 97, 97, 97, 97, 97, 97, 97, 97, 97, 97, 97, 97, 97, 97, 97]⟩) := (World.cell?_of_block hb6).trans (by simp)
            clear hb6
            go_wp2
            go_ret
            exact FIN.out [97, 97, 97, 97, 97, 97, 97, 97, 97, 97, 97, 97, 97, 97, 97, 97, 97, 97, 97, 97, 97, 97, 97, 97, 97] (by simp)
          · have hc : w6.cell? ⟨w4.heap.size, 3, none⟩ = some (.string ⟨#[65]⟩) := (World.cell?_of_block hb6).trans (by simp)
            clear hb6
            go_wp2
            go_ret
            exact FIN.out [65] (by simp)
end Go.Proofs.Ythllbekoidogpaa

namespace Go.Proofs.Ythllbekoidogpaa
open Go.RowKit
set_option linter.unusedVariables false


/-- A step that gives two words. -/
def PairStep (w wi : World) (B g P : Nat) (A : Option Addr) (n c : Nat) (e : Ending) (wj : World) : Prop :=
  ∃ u v P', e = .returned (.tuple #[.string (bs u), .string (bs v)]) ∧ u.length ≤ 40 ∧ v.length ≤ 100 ∧ St w wj B g P' A n c ∧ P' ≤ P + 200 ∧ Only g (g + 1) wi wj
set_option maxRecDepth 20000 in
set_option maxHeartbeats 8000000 in
theorem pair_st {w wi : World} {B g P n c : Nat} {A : Option Addr} (s : St w wi B g P A n c) (hP : P ≤ 300) :
    Calls Try.prog 56 #[.pointer (some ⟨g, 0, none⟩)] wi (PairStep w wi B g P A n c) := by
  go_enter Try.func56, Try.ntmps56
  go_wp2_with fail
  refine (word_st 7 14 s (by omega) (by omega) (by omega) (by omega) (by omega)).mono ?_
  rintro e w1 ⟨u, P1, rfl, hu, s1, hP1, o1⟩
  have hsu := size_bs u
  go_wp2_with fail
  refine (sWordOk_any u _ (by omega)).mono ?_
  cases hw : okW u
  · rintro e w_ ⟨rfl, rfl⟩
    go_wp2_with fail
    refine (word_st 7 14 s1 (by omega) (by omega) (by omega) (by omega) (by omega)).mono ?_
    rintro e w9 ⟨v, P9, rfl, hv, s9, hP9, o9⟩
    go_wp2
    go_ret2
    exact ⟨u, v, P9, rfl, hu, by omega, s9, by omega, (o1).trans o9⟩
  · rintro e w_ ⟨rfl, rfl⟩
    obtain ⟨_, l1, l24⟩ := okW_iff.1 hw
    go_wp2_with fail
    refine (pick_st (u.length : Int) s1 (by omega) (by omega) (by omega)).mono ?_
    rintro e_ w2 ⟨k, rfl, hk, s2, o2⟩
    go_wp2_with fail
    refine (pick_st ((u.length : Int) - (k : Int)) s2 (by omega) (by omega) (by omega)).mono ?_
    rintro e_ w3 ⟨d, rfl, hd, s3, o3⟩
    obtain ⟨j, hj⟩ : ∃ j, j = k + 1 + d := ⟨_, rfl⟩
    have hji : (k : Int) + 1 + (d : Int) = (j : Int) := by omega
    have hju : j ≤ u.length := by omega
    have hkj : k ≤ j := by omega
    clear hj
    go_wp2_with fail
    refine (pick_st 4 s3 (by omega) (by omega) (by omega)).mono ?_
    rintro e_ w4 ⟨a, rfl, ha, s4, o4⟩
    have O4 := ((o1.trans o2).trans o3).trans o4
    clear o1 o2 o3 o4 s1 s2 s3
    obtain rfl | rfl | rfl | rfl : a = 0 ∨ a = 1 ∨ a = 2 ∨ a = 3 := by omega
    · by_cases h24 : (u.length : Int) + (j : Int) - (k : Int) ≤ 24
      · have hs1 := fun w => slice_to Try.underlying9 u (j : Int) j rfl hju w
        have hs2 := fun w => slice_lh Try.underlying9 u (k : Int) (j : Int) k j rfl rfl hkj hju w
        have hs3 := fun w => slice_from Try.underlying9 u (j : Int) j rfl hju w
        have n1 : (u.take j).length ≤ 40 := by rw [List.length_take]; omega
        have n2 : ((u.drop k).take (j - k)).length ≤ 40 := by rw [List.length_take, List.length_drop]; omega
        have n3 : (u.drop j).length ≤ 40 := by rw [List.length_drop]; omega
        have nsum : (u.take j).length + ((u.drop k).take (j - k)).length + (u.drop j).length ≤ 100 := by rw [List.length_take, List.length_take, List.length_drop, List.length_drop]; omega
        obtain ⟨x1, hx1⟩ : ∃ x1, x1 = u.take j := ⟨_, rfl⟩
        obtain ⟨x2, hx2⟩ : ∃ x2, x2 = (u.drop k).take (j - k) := ⟨_, rfl⟩
        obtain ⟨x3, hx3⟩ : ∃ x3, x3 = u.drop j := ⟨_, rfl⟩
        rw [← hx1] at hs1 n1 nsum
        rw [← hx2] at hs2 n2 nsum
        rw [← hx3] at hs3 n3 nsum
        clear hx1 hx2 hx3
        have a1 := fun w => add_bs (P := Try.prog) x1 x2 (by omega) w
        have a2 := fun w => add_bs (P := Try.prog) (x1 ++ x2) x3 (by rw [List.length_append]; omega) w
        have n5 : (x1 ++ x2 ++ x3).length ≤ 100 := by rw [List.length_append, List.length_append]; exact nsum
        obtain ⟨y1, hy1⟩ : ∃ y1, y1 = x1 ++ x2 := ⟨_, rfl⟩
        rw [← hy1] at a1 a2 n5
        obtain ⟨y2, hy2⟩ : ∃ y2, y2 = y1 ++ x3 := ⟨_, rfl⟩
        rw [← hy2] at a2 n5
        clear hy1 hy2 nsum
        go_wp2
        refine wp_region_noPanic ?_
        refine wp_region_held_drew (S := (fun W => QD w4 W)) (by kernel_rfl) ?_ (fun hHeld => ?_)
        · exact (QD.refl _).drew
        first
          | (refine wpAnyH_take (i := 0) (v := ?_) (by simp only [List.getElem?_toArray, List.getElem?_cons_zero]; rfl) (by kernel_rfl) (by kernel_rfl) (by kernel_rfl) (fun _ _ _ h => h) (Or.inl ⟨by rfl, ?_⟩) hHeld ?_
             rotate_left
             · intro w_ hSw
               (try dsimp only at hSw)
               first
                 | (go_simp; done)
                 | (go_simp; with_reducible rfl))
          | (refine wpAnyH_take (i := 0) (v := undef) (by simp only [List.getElem?_toArray, List.getElem?_cons_zero]; rfl) (by kernel_rfl) (by kernel_rfl) (by kernel_rfl) (fun _ _ _ h => h) (Or.inr ⟨by rfl, rfl⟩) hHeld ?_)
        try simp only [Act.put, List.setIfInBounds_toArray, List.set_cons_zero, List.set_cons_succ]
        first
          | (refine wpAnyH_take (i := 1) (v := ?_) (by simp only [List.getElem?_toArray, List.getElem?_cons_succ, List.getElem?_cons_zero]; rfl) (by kernel_rfl) (by kernel_rfl) (by kernel_rfl) (fun _ _ _ h => h) (Or.inl ⟨by rfl, ?_⟩) hHeld ?_
             rotate_left
             · intro w_ hSw
               (try dsimp only at hSw)
               first
                 | (go_simp; done)
                 | (go_simp; with_reducible rfl))
          | (refine wpAnyH_take (i := 1) (v := undef) (by simp only [List.getElem?_toArray, List.getElem?_cons_succ, List.getElem?_cons_zero]; rfl) (by kernel_rfl) (by kernel_rfl) (by kernel_rfl) (fun _ _ _ h => h) (Or.inr ⟨by rfl, rfl⟩) hHeld ?_)
        try simp only [Act.put, List.setIfInBounds_toArray, List.set_cons_zero, List.set_cons_succ]
        first
          | (refine wpAnyH_take (i := 2) (v := ?_) (by simp only [List.getElem?_toArray, List.getElem?_cons_succ, List.getElem?_cons_zero]; rfl) (by kernel_rfl) (by kernel_rfl) (by kernel_rfl) (fun _ _ _ h => h) (Or.inl ⟨by rfl, ?_⟩) hHeld ?_
             rotate_left
             · intro w_ hSw
               (try dsimp only at hSw)
               first
                 | (go_simp; done)
                 | (go_simp; with_reducible rfl))
          | (refine wpAnyH_take (i := 2) (v := undef) (by simp only [List.getElem?_toArray, List.getElem?_cons_succ, List.getElem?_cons_zero]; rfl) (by kernel_rfl) (by kernel_rfl) (by kernel_rfl) (fun _ _ _ h => h) (Or.inr ⟨by rfl, rfl⟩) hHeld ?_)
        try simp only [Act.put, List.setIfInBounds_toArray, List.set_cons_zero, List.set_cons_succ]
        first
          | (refine wpAnyH_take (i := 3) (v := ?_) (by simp only [List.getElem?_toArray, List.getElem?_cons_succ, List.getElem?_cons_zero]; rfl) (by kernel_rfl) (by kernel_rfl) (by kernel_rfl) (fun _ _ _ h => h) (Or.inl ⟨by rfl, ?_⟩) hHeld ?_
             rotate_left
             · intro w_ hSw
               (try dsimp only at hSw)
               first
                 | (go_simp; done)
                 | (go_simp; with_reducible rfl))
          | (refine wpAnyH_take (i := 3) (v := undef) (by simp only [List.getElem?_toArray, List.getElem?_cons_succ, List.getElem?_cons_zero]; rfl) (by kernel_rfl) (by kernel_rfl) (by kernel_rfl) (fun _ _ _ h => h) (Or.inr ⟨by rfl, rfl⟩) hHeld ?_)
        try simp only [Act.put, List.setIfInBounds_toArray, List.set_cons_zero, List.set_cons_succ]
        first
          | (refine wpAnyH_take (i := 4) (v := ?_) (by simp only [List.getElem?_toArray, List.getElem?_cons_succ, List.getElem?_cons_zero]; rfl) (by kernel_rfl) (by kernel_rfl) (by kernel_rfl) (fun _ _ _ h => h) (Or.inl ⟨by rfl, ?_⟩) hHeld ?_
             rotate_left
             · intro w_ hSw
               (try dsimp only at hSw)
               first
                 | (go_simp; done)
                 | (go_simp; with_reducible rfl))
          | (refine wpAnyH_take (i := 4) (v := undef) (by simp only [List.getElem?_toArray, List.getElem?_cons_succ, List.getElem?_cons_zero]; rfl) (by kernel_rfl) (by kernel_rfl) (by kernel_rfl) (fun _ _ _ h => h) (Or.inr ⟨by rfl, rfl⟩) hHeld ?_)
        try simp only [Act.put, List.setIfInBounds_toArray, List.set_cons_zero, List.set_cons_succ]
        first
          | (refine wpAnyH_take (i := 5) (v := ?_) (by simp only [List.getElem?_toArray, List.getElem?_cons_succ, List.getElem?_cons_zero]; rfl) (by kernel_rfl) (by kernel_rfl) (by kernel_rfl) (fun _ _ _ h => h) (Or.inl ⟨by rfl, ?_⟩) hHeld ?_
             rotate_left
             · intro w_ hSw
               (try dsimp only at hSw)
               first
                 | (go_simp; done)
                 | (go_simp; with_reducible rfl))
          | (refine wpAnyH_take (i := 5) (v := undef) (by simp only [List.getElem?_toArray, List.getElem?_cons_succ, List.getElem?_cons_zero]; rfl) (by kernel_rfl) (by kernel_rfl) (by kernel_rfl) (fun _ _ _ h => h) (Or.inr ⟨by rfl, rfl⟩) hHeld ?_)
        try simp only [Act.put, List.setIfInBounds_toArray, List.set_cons_zero, List.set_cons_succ]
        first
          | (refine wpAnyH_take (i := 6) (v := ?_) (by simp only [List.getElem?_toArray, List.getElem?_cons_succ, List.getElem?_cons_zero]; rfl) (by kernel_rfl) (by kernel_rfl) (by kernel_rfl) (fun _ _ _ h => h) (Or.inl ⟨by rfl, ?_⟩) hHeld ?_
             rotate_left
             · intro w_ hSw
               (try dsimp only at hSw)
               first
                 | (go_simp; done)
                 | (go_simp; with_reducible rfl))
          | (refine wpAnyH_take (i := 6) (v := undef) (by simp only [List.getElem?_toArray, List.getElem?_cons_succ, List.getElem?_cons_zero]; rfl) (by kernel_rfl) (by kernel_rfl) (by kernel_rfl) (fun _ _ _ h => h) (Or.inr ⟨by rfl, rfl⟩) hHeld ?_)
        try simp only [Act.put, List.setIfInBounds_toArray, List.set_cons_zero, List.set_cons_succ]
        first
          | (refine wpAnyH_take (i := 7) (v := ?_) (by simp only [List.getElem?_toArray, List.getElem?_cons_succ, List.getElem?_cons_zero]; rfl) (by kernel_rfl) (by kernel_rfl) (by kernel_rfl) (fun _ _ _ h => h) (Or.inl ⟨by rfl, ?_⟩) hHeld ?_
             rotate_left
             · intro w_ hSw
               (try dsimp only at hSw)
               first
                 | (go_simp; done)
                 | (go_simp; with_reducible rfl))
          | (refine wpAnyH_take (i := 7) (v := undef) (by simp only [List.getElem?_toArray, List.getElem?_cons_succ, List.getElem?_cons_zero]; rfl) (by kernel_rfl) (by kernel_rfl) (by kernel_rfl) (fun _ _ _ h => h) (Or.inr ⟨by rfl, rfl⟩) hHeld ?_)
        try simp only [Act.put, List.setIfInBounds_toArray, List.set_cons_zero, List.set_cons_succ]
        first
          | (refine wpAnyH_take (i := 8) (v := ?_) (by simp only [List.getElem?_toArray, List.getElem?_cons_succ, List.getElem?_cons_zero]; rfl) (by kernel_rfl) (by kernel_rfl) (by kernel_rfl) (fun _ _ _ h => h) (Or.inl ⟨by rfl, ?_⟩) hHeld ?_
             rotate_left
             · intro w_ hSw
               (try dsimp only at hSw)
               first
                 | (go_simp; done)
                 | (go_simp; with_reducible rfl))
          | (refine wpAnyH_take (i := 8) (v := undef) (by simp only [List.getElem?_toArray, List.getElem?_cons_succ, List.getElem?_cons_zero]; rfl) (by kernel_rfl) (by kernel_rfl) (by kernel_rfl) (fun _ _ _ h => h) (Or.inr ⟨by rfl, rfl⟩) hHeld ?_)
        try simp only [Act.put, List.setIfInBounds_toArray, List.set_cons_zero, List.set_cons_succ]
        first
          | (refine wpAnyH_take (i := 9) (v := ?_) (by simp only [List.getElem?_toArray, List.getElem?_cons_succ, List.getElem?_cons_zero]; rfl) (by kernel_rfl) (by kernel_rfl) (by kernel_rfl) (fun _ _ _ h => h) (Or.inl ⟨by rfl, ?_⟩) hHeld ?_
             rotate_left
             · intro w_ hSw
               (try dsimp only at hSw)
               first
                 | (go_simp; done)
                 | (go_simp; with_reducible rfl))
          | (refine wpAnyH_take (i := 9) (v := undef) (by simp only [List.getElem?_toArray, List.getElem?_cons_succ, List.getElem?_cons_zero]; rfl) (by kernel_rfl) (by kernel_rfl) (by kernel_rfl) (fun _ _ _ h => h) (Or.inr ⟨by rfl, rfl⟩) hHeld ?_)
        try simp only [Act.put, List.setIfInBounds_toArray, List.set_cons_zero, List.set_cons_succ]
        first
          | (refine wpAnyH_take (i := 10) (v := ?_) (by simp only [List.getElem?_toArray, List.getElem?_cons_succ, List.getElem?_cons_zero]; rfl) (by kernel_rfl) (by kernel_rfl) (by kernel_rfl) (fun _ _ _ h => h) (Or.inl ⟨by rfl, ?_⟩) hHeld ?_
             rotate_left
             · intro w_ hSw
               (try dsimp only at hSw)
               first
                 | (go_simp; done)
                 | (go_simp; with_reducible rfl))
          | (refine wpAnyH_take (i := 10) (v := undef) (by simp only [List.getElem?_toArray, List.getElem?_cons_succ, List.getElem?_cons_zero]; rfl) (by kernel_rfl) (by kernel_rfl) (by kernel_rfl) (fun _ _ _ h => h) (Or.inr ⟨by rfl, rfl⟩) hHeld ?_)
        try simp only [Act.put, List.setIfInBounds_toArray, List.set_cons_zero, List.set_cons_succ]
        first
          | (refine wpAnyH_take (i := 11) (v := ?_) (by simp only [List.getElem?_toArray, List.getElem?_cons_succ, List.getElem?_cons_zero]; rfl) (by kernel_rfl) (by kernel_rfl) (by kernel_rfl) (fun _ _ _ h => h) (Or.inl ⟨by rfl, ?_⟩) hHeld ?_
             rotate_left
             · intro w_ hSw
               (try dsimp only at hSw)
               first
                 | (go_simp; done)
                 | (go_simp; with_reducible rfl))
          | (refine wpAnyH_take (i := 11) (v := undef) (by simp only [List.getElem?_toArray, List.getElem?_cons_succ, List.getElem?_cons_zero]; rfl) (by kernel_rfl) (by kernel_rfl) (by kernel_rfl) (fun _ _ _ h => h) (Or.inr ⟨by rfl, rfl⟩) hHeld ?_)
        try simp only [Act.put, List.setIfInBounds_toArray, List.set_cons_zero, List.set_cons_succ]
        first
          | (refine wpAnyH_take (i := 12) (v := ?_) (by simp only [List.getElem?_toArray, List.getElem?_cons_succ, List.getElem?_cons_zero]; rfl) (by kernel_rfl) (by kernel_rfl) (by kernel_rfl) (fun _ _ _ h => h) (Or.inl ⟨by rfl, ?_⟩) hHeld ?_
             rotate_left
             · intro w_ hSw
               (try dsimp only at hSw)
               first
                 | (go_simp; done)
                 | (go_simp; with_reducible rfl))
          | (refine wpAnyH_take (i := 12) (v := undef) (by simp only [List.getElem?_toArray, List.getElem?_cons_succ, List.getElem?_cons_zero]; rfl) (by kernel_rfl) (by kernel_rfl) (by kernel_rfl) (fun _ _ _ h => h) (Or.inr ⟨by rfl, rfl⟩) hHeld ?_)
        try simp only [Act.put, List.setIfInBounds_toArray, List.set_cons_zero, List.set_cons_succ]
        first
          | (refine wpAnyH_take (i := 13) (v := ?_) (by simp only [List.getElem?_toArray, List.getElem?_cons_succ, List.getElem?_cons_zero]; rfl) (by kernel_rfl) (by kernel_rfl) (by kernel_rfl) (fun _ _ _ h => h) (Or.inl ⟨by rfl, ?_⟩) hHeld ?_
             rotate_left
             · intro w_ hSw
               (try dsimp only at hSw)
               first
                 | (go_simp; done)
                 | (go_simp; with_reducible rfl))
          | (refine wpAnyH_take (i := 13) (v := undef) (by simp only [List.getElem?_toArray, List.getElem?_cons_succ, List.getElem?_cons_zero]; rfl) (by kernel_rfl) (by kernel_rfl) (by kernel_rfl) (fun _ _ _ h => h) (Or.inr ⟨by rfl, rfl⟩) hHeld ?_)
        try simp only [Act.put, List.setIfInBounds_toArray, List.set_cons_zero, List.set_cons_succ]
        first
          | (refine wpAnyH_take (i := 14) (v := ?_) (by simp only [List.getElem?_toArray, List.getElem?_cons_succ, List.getElem?_cons_zero]; rfl) (by kernel_rfl) (by kernel_rfl) (by kernel_rfl) (fun _ _ _ h => h) (Or.inl ⟨by rfl, ?_⟩) hHeld ?_
             rotate_left
             · intro w_ hSw
               (try dsimp only at hSw)
               first
                 | (go_simp; done)
                 | (go_simp; with_reducible rfl))
          | (refine wpAnyH_take (i := 14) (v := undef) (by simp only [List.getElem?_toArray, List.getElem?_cons_succ, List.getElem?_cons_zero]; rfl) (by kernel_rfl) (by kernel_rfl) (by kernel_rfl) (fun _ _ _ h => h) (Or.inr ⟨by rfl, rfl⟩) hHeld ?_)
        try simp only [Act.put, List.setIfInBounds_toArray, List.set_cons_zero, List.set_cons_succ]
        refine wpAnyH_done (by kernel_rfl) (NoPanic.normal ?_) _
        go_wp2
        go_ret2
        exact ⟨u, y2, _, rfl, hu, n5, s4.below (hHeld.below _), by omega, O4.trans (Only.of_below (hHeld.below _))⟩
      · go_wp2_with fail
        refine (word_st 7 14 s4 (by omega) (by omega) (by omega) (by omega) (by omega)).mono ?_
        rintro e w9 ⟨v, P9, rfl, hv, s9, hP9, o9⟩
        go_wp2
        go_ret2
        exact ⟨u, v, P9, rfl, hu, by omega, s9, by omega, (O4).trans o9⟩
    · go_wp2_with fail
      refine (sl7Made_any u.length u _ (Nat.le_refl _) (.inr hw)).mono ?_
      have hm := made_short hw
      rintro e w5 ⟨rfl, q5⟩
      go_wp2
      go_ret2
      exact ⟨u, made u, _, rfl, hu, by omega, s4.below (q5.below _), by omega, O4.trans (Only.of_below (q5.below _))⟩
    · have a1 := fun w => add_bs (P := Try.prog) u u (by omega) w
      have nv : (u ++ u).length ≤ 48 := by rw [List.length_append]; omega
      have nv2 : u.length ≤ (u ++ u).length := by rw [List.length_append]; omega
      obtain ⟨v, hv⟩ : ∃ v, v = u ++ u := ⟨_, rfl⟩
      rw [← hv] at a1 nv nv2
      clear hv
      go_wp2_with fail
      refine (pick_st ((u.length : Int) + 1) s4 (by omega) (by omega) (by omega)).mono ?_
      rintro e_ w5 ⟨q, rfl, hq, s5, o5⟩
      have O5 := O4.trans o5
      have hqv : q ≤ v.length := by omega
      have hs1 := fun w => slice_to Try.underlying9 v (q : Int) q rfl hqv w
      have hs2 := fun w => slice_from Try.underlying9 v (q : Int) q rfl hqv w
      have n1 : (v.take q).length + (v.drop q).length ≤ 48 := by rw [List.length_take, List.length_drop]; omega
      obtain ⟨x1, hx1⟩ : ∃ x1, x1 = v.take q := ⟨_, rfl⟩
      obtain ⟨x2, hx2⟩ : ∃ x2, x2 = v.drop q := ⟨_, rfl⟩
      rw [← hx1] at hs1 n1
      rw [← hx2] at hs2 n1
      clear hx1 hx2
      have hmx : Try.prog.follows .mixedOrders = true := by kernel_rfl
      have s5d : St w w5.drew B g _ A n c := s5.below (below_drewN 1)
      have o5d : Only g (g + 1) wi w5.drew := O5.drewN 1
      go_wp2
      refine wp_region_noPanic ?_
      refine wp_region_any hmx ?_
      change wpAny _ _ _ _ _ _ _ (World.drew _)
      refine wpAny_take (i := 0) (v := ?_) (by simp only [List.getElem?_toArray, List.getElem?_cons_zero]; rfl) (by kernel_rfl) (by kernel_rfl) (by kernel_rfl) (fun _ _ _ h => h) (Or.inl ⟨by rfl, ?_⟩) ?_
      rotate_left
      · intro w_
        first
          | (go_simp; done)
          | (go_simp; with_reducible rfl)
      try simp only [Act.put, List.setIfInBounds_toArray, List.set_cons_zero, List.set_cons_succ]
      refine wpAny_take (i := 1) (v := ?_) (by simp only [List.getElem?_toArray, List.getElem?_cons_succ, List.getElem?_cons_zero]; rfl) (by kernel_rfl) (by kernel_rfl) (by kernel_rfl) (fun _ _ _ h => h) (Or.inl ⟨by rfl, ?_⟩) ?_
      rotate_left
      · intro w_
        first
          | (go_simp; done)
          | (go_simp; with_reducible rfl)
      try simp only [Act.put, List.setIfInBounds_toArray, List.set_cons_zero, List.set_cons_succ]
      refine wpAny_take (i := 2) (v := ?_) (by simp only [List.getElem?_toArray, List.getElem?_cons_succ, List.getElem?_cons_zero]; rfl) (by kernel_rfl) (by kernel_rfl) (by kernel_rfl) (fun _ _ _ h => h) (Or.inl ⟨by rfl, ?_⟩) ?_
      rotate_left
      · intro w_
        first
          | (go_simp; done)
          | (go_simp; with_reducible rfl)
      try simp only [Act.put, List.setIfInBounds_toArray, List.set_cons_zero, List.set_cons_succ]
      refine wpAny_take (i := 3) (v := ?_) (by simp only [List.getElem?_toArray, List.getElem?_cons_succ, List.getElem?_cons_zero]; rfl) (by kernel_rfl) (by kernel_rfl) (by kernel_rfl) (fun _ _ _ h => h) (Or.inl ⟨by rfl, ?_⟩) ?_
      rotate_left
      · intro w_
        first
          | (go_simp; done)
          | (go_simp; with_reducible rfl)
      try simp only [Act.put, List.setIfInBounds_toArray, List.set_cons_zero, List.set_cons_succ]
      refine wpAny_take (i := 4) (v := ?_) (by simp only [List.getElem?_toArray, List.getElem?_cons_succ, List.getElem?_cons_zero]; rfl) (by kernel_rfl) (by kernel_rfl) (by kernel_rfl) (fun _ _ _ h => h) (Or.inl ⟨by rfl, ?_⟩) ?_
      rotate_left
      · intro w_
        first
          | (go_simp; done)
          | (go_simp; with_reducible rfl)
      try simp only [Act.put, List.setIfInBounds_toArray, List.set_cons_zero, List.set_cons_succ]
      refine wpAny_take (i := 7) (v := ?_) (by simp only [List.getElem?_toArray, List.getElem?_cons_succ, List.getElem?_cons_zero]; rfl) (by kernel_rfl) (by kernel_rfl) (by kernel_rfl) (fun _ _ _ h => h) (Or.inl ⟨by rfl, ?_⟩) ?_
      rotate_left
      · intro w_
        first
          | (go_simp; done)
          | (go_simp; with_reducible rfl)
      try simp only [Act.put, List.setIfInBounds_toArray, List.set_cons_zero, List.set_cons_succ]
      refine wpAny_take (i := 8) (v := ?_) (by simp only [List.getElem?_toArray, List.getElem?_cons_succ, List.getElem?_cons_zero]; rfl) (by kernel_rfl) (by kernel_rfl) (by kernel_rfl) (fun _ _ _ h => h) (Or.inl ⟨by rfl, ?_⟩) ?_
      rotate_left
      · intro w_
        first
          | (go_simp; done)
          | (go_simp; with_reducible rfl)
      try simp only [Act.put, List.setIfInBounds_toArray, List.set_cons_zero, List.set_cons_succ]
      refine wpAny_take (i := 9) (v := ?_) (by simp only [List.getElem?_toArray, List.getElem?_cons_succ, List.getElem?_cons_zero]; rfl) (by kernel_rfl) (by kernel_rfl) (by kernel_rfl) (fun _ _ _ h => h) (Or.inl ⟨by rfl, ?_⟩) ?_
      rotate_left
      · intro w_
        first
          | (go_simp; done)
          | (go_simp; with_reducible rfl)
      try simp only [Act.put, List.setIfInBounds_toArray, List.set_cons_zero, List.set_cons_succ]
      refine wpAny_ready (rs := [5]) (by kernel_rfl) (by simp) ?_
      refine AllReady.cons (by simp only [List.getElem?_toArray, List.getElem?_cons_succ, List.getElem?_cons_zero]; rfl) (fun K hK => ?_) AllReady.nil
      go_simp
      refine (word_st 2 0 s5d (by omega) (by omega) (by omega) (by omega) (by omega)).mono ?_
      rintro e w6 ⟨y, P6, rfl, hy, s6, hP6, o6⟩
      have a2 := fun w => add_bs (P := Try.prog) x1 y (by omega) w
      have a3 := fun w => add_bs (P := Try.prog) (x1 ++ y) x2 (by rw [List.length_append]; omega) w
      obtain ⟨z1, hz1⟩ : ∃ z1, z1 = x1 ++ y := ⟨_, rfl⟩
      rw [← hz1] at a2 a3
      obtain ⟨z2, hz2⟩ : ∃ z2, z2 = z1 ++ x2 := ⟨_, rfl⟩
      rw [← hz2] at a3
      have HZL := hide (show z2.length ≤ 100 from by rw [hz2, hz1, List.length_append, List.length_append]; omega)
      clear hz1 hz2
      try simp only []
      refine hK _ _ ?_
      clear hK K
      try simp only [Act.put, List.setIfInBounds_toArray, List.set_cons_zero, List.set_cons_succ]
      refine wpAny_take (i := 6) (v := ?_) (by simp only [List.getElem?_toArray, List.getElem?_cons_succ, List.getElem?_cons_zero]; rfl) (by kernel_rfl) (by kernel_rfl) (by kernel_rfl) (fun _ _ _ h => h) (Or.inl ⟨by rfl, ?_⟩) ?_
      rotate_left
      · intro w_
        first
          | (go_simp; done)
          | (go_simp; with_reducible rfl)
      try simp only [Act.put, List.setIfInBounds_toArray, List.set_cons_zero, List.set_cons_succ]
      refine wpAny_take (i := 10) (v := ?_) (by simp only [List.getElem?_toArray, List.getElem?_cons_succ, List.getElem?_cons_zero]; rfl) (by kernel_rfl) (by kernel_rfl) (by kernel_rfl) (fun _ _ _ h => h) (Or.inl ⟨by rfl, ?_⟩) ?_
      rotate_left
      · intro w_
        first
          | (go_simp; done)
          | (go_simp; with_reducible rfl)
      try simp only [Act.put, List.setIfInBounds_toArray, List.set_cons_zero, List.set_cons_succ]
      refine wpAny_take (i := 11) (v := ?_) (by simp only [List.getElem?_toArray, List.getElem?_cons_succ, List.getElem?_cons_zero]; rfl) (by kernel_rfl) (by kernel_rfl) (by kernel_rfl) (fun _ _ _ h => h) (Or.inl ⟨by rfl, ?_⟩) ?_
      rotate_left
      · intro w_
        first
          | (go_simp; done)
          | (go_simp; with_reducible rfl)
      try simp only [Act.put, List.setIfInBounds_toArray, List.set_cons_zero, List.set_cons_succ]
      refine wpAny_take (i := 12) (v := ?_) (by simp only [List.getElem?_toArray, List.getElem?_cons_succ, List.getElem?_cons_zero]; rfl) (by kernel_rfl) (by kernel_rfl) (by kernel_rfl) (fun _ _ _ h => h) (Or.inl ⟨by rfl, ?_⟩) ?_
      rotate_left
      · intro w_
        first
          | (go_simp; done)
          | (go_simp; with_reducible rfl)
      try simp only [Act.put, List.setIfInBounds_toArray, List.set_cons_zero, List.set_cons_succ]
      refine wpAny_done (by kernel_rfl) (NoPanic.normal ?_) _
      go_wp2
      go_ret2
      exact ⟨u, z2, _, rfl, hu, HZL.out, s6, by omega, o5d.trans o6⟩
    · go_wp2_with fail
      refine (word_st 7 14 s4 (by omega) (by omega) (by omega) (by omega) (by omega)).mono ?_
      rintro e w9 ⟨v, P9, rfl, hv, s9, hP9, o9⟩
      go_wp2
      go_ret2
      exact ⟨u, v, P9, rfl, hu, by omega, s9, by omega, (O4).trans o9⟩
end Go.Proofs.Ythllbekoidogpaa

namespace Go.Proofs.Ythllbekoidogpaa
open Go.RowKit
set_option linter.unusedVariables false

theorem ARow.set_int {base g y : Nat} {z : Int} {w : World} {u : Value} {xs : List Int} (h : ARow base w u xs) :
    ∃ xs' : List Int, xs'.length = xs.length ∧ ARow base (w.setCell ⟨g, y, none⟩ (.int .i64 z)) u xs' := by
  obtain ⟨h1, h2⟩ := h
  rcases h2 with h2 | ⟨g', cap, cur, hv, hg, hh, hc, hm, hs, ht⟩
  · exact ⟨xs, rfl, h1, .inl h2⟩
  · by_cases e : g' = g
    · subst e
      refine ⟨xs.set y z, by simp, by simp, .inr ⟨g', cap, cur.setIfInBounds y (.int .i64 z), by rw [hv]; simp, hg, ?_, by simpa using hc, hm, by simpa using hs, ?_⟩⟩
      · simp [World.setCell, Array.getElem?_modify, hh]
      · rw [Nat.mul_one] at ht
        simp only [Nat.mul_one, List.length_set, Array.toList_setIfInBounds, List.map_set]
        rw [List.take_set, ht]
    · exact ⟨xs, rfl, h1, .inr ⟨g', cap, cur, hv, hg, (Below.heap_setCell _ _ _ _ (by show g' ≠ g; exact e)).trans hh, hc, hm, hs, ht⟩⟩

theorem TabS.cells {w wi : World} {A' : Option Addr} {q c' x y : Nat} (h : TabS w wi (.slice A' q c') q) (hx : x < q) (hy : y < q) :
    ∃ b b2 c2 z, A' = some ⟨b, 0, none⟩ ∧ wi.cell? ⟨b, x, none⟩ = some (.slice (some ⟨b2, 0, none⟩) q c2) ∧ q ≤ c2 ∧ c2 ≤ 9223372036854775807 ∧ wi.cell? ⟨b2, y, none⟩ = some (.int .i64 z) ∧ wi.frozen? ⟨b2, y, none⟩ = false ∧ wi.frozen? ⟨b, x, none⟩ = false ∧ w.heap.size ≤ b2 ∧ w.heap.size ≤ b ∧ b ≠ b2 ∧
      ∀ u : Int, TabS w (wi.setCell ⟨b2, y, none⟩ (.int .i64 u)) (.slice A' q c') q := by
  obtain ⟨T, ⟨vs, h1, h2⟩, hT⟩ := h
  have hl := hT.len
  obtain ⟨u, hu, hr⟩ := h2 x (by omega)
  have hrl := hT.row x hx
  have h1k := h1
  have hrk := hr
  rcases h1.2 with ⟨_, h0⟩ | ⟨b, cap, cur, hv, hg, hh, hc, hm, hs, ht⟩
  · omega
  rcases hr.2 with ⟨_, h0⟩ | ⟨b2, cap2, cur2, hv2, hg2, hh2, hc2, hm2, hs2, ht2⟩
  · omega
  have hne : b ≠ b2 := fun e => by
    subst e
    rw [hh] at hh2
    injection hh2 with hh2
    injection hh2 with _ hty
    exact absurd hty (by decide)
  injection hv with hA hlen hcap
  subst hA
  subst hv2
  have ex := h1k.cells (g := b) (by rw [Value.ownBlock]) x _ hu
  have ey := hrk.cells (g := b2) rfl y (.int .i64 (el (rw_ T x) y)) (by simp [el, List.getD, hrl, hy])
  rw [Addr.add_lit] at ex ey
  simp only [Nat.zero_add] at ex ey
  refine ⟨b, b2, cap2, _, rfl, by rw [ex, hrl], by omega, by rw [maxLen_is] at hm2; exact hm2, ey, by simp [World.frozen?, hh2], by simp [World.frozen?, hh], hg2, hg, hne, fun z => ?_⟩
  have each : ∀ i, i < T.length → ∃ xs' : List Int, xs'.length = (rw_ T i).length ∧ ∃ u', vs[i]? = some u' ∧ ARow w.heap.size (wi.setCell ⟨b2, y, none⟩ (.int .i64 z)) u' xs' := fun i hi => by
    obtain ⟨u', hu', hr'⟩ := h2 i hi
    obtain ⟨xs', hl', ha'⟩ := hr'.set_int (g := b2) (y := y) (z := z)
    exact ⟨xs', hl', u', hu', ha'⟩
  obtain ⟨F, hF⟩ := Go.Deep.choose_lt each
  have hrow : ∀ i, i < T.length → rw_ ((List.range T.length).map F) i = F i := fun i hi => by simp [rw_, List.getD, hi]
  refine ⟨(List.range T.length).map F, ⟨vs, ⟨by simpa using h1k.1, .inr ⟨b, cap, cur, by simp [hl, hcap], hg, (Below.heap_setCell _ _ _ _ (by show b ≠ b2; exact hne)).trans hh, by simpa using hc, hm, by simpa using hs, by simpa using ht⟩⟩, fun i hi => ?_⟩, ⟨by simp [hl], fun i hi => ?_⟩⟩
  · have hi' : i < T.length := by simpa using hi
    obtain ⟨_, u', hu', ha'⟩ := hF i hi'
    exact ⟨u', hu', by rw [hrow i hi']; exact ha'⟩
  · rw [hrow i (by omega), (hF i (by omega)).1]
    exact hT.row i hi

theorem St.set {w wi : World} {B g P n c b y : Nat} {A : Option Addr} {u : Value} (h : St w wi B g P A n c) (hb : w.heap.size ≤ b) : St w (wi.setCell ⟨b, y, none⟩ u) B g P A n c := by
  have hb2 : Below w.heap.size wi (wi.setCell ⟨b, y, none⟩ u) := (Below.refl _ _).setCell hb _
  exact ⟨h.rd.belowM hb2 h.lt, h.only.thenBelow hb2 (Nat.le_refl _), h.lt⟩
end Go.Proofs.Ythllbekoidogpaa

namespace Go.Proofs.Ythllbekoidogpaa
open Go.RowKit
set_option linter.unusedVariables false

/-- A call that draws a table, square or not. -/
def DrawAny (w : World) (B g P : Nat) (A : Option Addr) (n c : Nat) (e : Ending) (w' : World) : Prop :=
  ∃ A' c' T P', e = .returned (.slice A' T.length c') ∧ Mat w' w.heap.size w'.heap.size A' T ∧ Small T ∧ St w w' B g P' A n c ∧ P' ≤ P ∧ T.length ≤ 9
theorem DrawAny.mono {w w' : World} {B g P P2 n c : Nat} {A : Option Addr} {e : Ending} (h : DrawAny w B g P A n c e w') (hp : P ≤ P2) : DrawAny w B g P2 A n c e w' := by
  obtain ⟨A', c', T, P', h1, h2, h3, h4, h5, h6⟩ := h
  exact ⟨A', c', T, P', h1, h2, h3, h4, Nat.le_trans h5 hp, h6⟩
theorem Bd.any {w w' : World} {B g P n c m c' : Nat} {A A' : Option Addr} (h : TabS w w' (.slice A' m c') m) (hm : m ≤ 9) (s : St w w' B g P A n c) : DrawAny w B g P A n c (.returned (.slice A' m c')) w' := by
  obtain ⟨T, hM, hT⟩ := h.mat
  exact ⟨A', c', T, P, by rw [hT.len], hM, hT.small hm hm, s, Nat.le_refl _, by rw [hT.len]; exact hm⟩


/-- A drawn table of which the blocks of the rows are known. -/
structure TF (w W : World) (b q c : Nat) (F H : Nat → Nat) : Prop where
  tab : TabS w W (.slice (some ⟨b, 0, none⟩) q c) q
  top : ∀ x, x < q → W.cell? ⟨b, x, none⟩ = some (.slice (some ⟨F x, 0, none⟩) q (H x))
theorem TF.of {w W : World} {A' : Option Addr} {q c : Nat} (h : TabS w W (.slice A' q c) q) (hq : 1 ≤ q) : ∃ b F H, A' = some ⟨b, 0, none⟩ ∧ TF w W b q c F H := by
  obtain ⟨b, _, _, _, rfl, _⟩ := h.cells (x := 0) (y := 0) (by omega) (by omega)
  have each : ∀ x, x < q → ∃ y : Nat × Nat, W.cell? ⟨b, x, none⟩ = some (.slice (some ⟨y.1, 0, none⟩) q y.2) := fun x hx => by
    obtain ⟨b', b2, c2, _, e, hc, _⟩ := h.cells (x := x) (y := 0) hx (by omega)
    obtain rfl : b = b' := by simpa using e
    exact ⟨(b2, c2), hc⟩
  obtain ⟨F, hF⟩ := Go.Deep.choose_lt each
  exact ⟨b, fun x => (F x).1, fun x => (F x).2, rfl, h, hF⟩
section
variable {w W W' : World} {b q c g : Nat} {F H : Nat → Nat}
theorem TF.cell (h : TF w W b q c F H) {x y : Nat} (hx : x < q) (hy : y < q) :
    W.cell? ⟨F x, y, none⟩ = some (curV W ⟨F x, y, none⟩) ∧ W.frozen? ⟨F x, y, none⟩ = false ∧ w.heap.size ≤ F x ∧ w.heap.size ≤ b ∧ b ≠ F x ∧ ∀ u : Int, TabS w (W.setCell ⟨F x, y, none⟩ (.int .i64 u)) (.slice (some ⟨b, 0, none⟩) q c) q := by
  obtain ⟨b', b2, c2, z, e, hc, _, _, hz, hf, _, h1, h2, h3, h4⟩ := h.tab.cells (x := x) (y := y) hx hy
  obtain rfl : b = b' := by simpa using e
  have e2 := (h.top x hx).symm.trans hc
  have e3 : F x = b2 := by simpa using (by injection e2 with e2; injection e2 with e2 _ _; injection e2 with e2; injection e2 : F x = b2)
  rw [e3]
  exact ⟨by simp [curV, hz], hf, h1, h2, h3, h4⟩
theorem TF.only (hO : Only g (g + 1) W W') (hg : g < w.heap.size) (h : TF w W b q c F H) : TF w W' b q c F H := by
  refine ⟨h.tab.only hO hg, fun x hx => ?_⟩
  obtain ⟨_, _, _, h2, _⟩ := h.cell hx hx
  have hlt := World.block_lt_of_cell? _ _ (h.top x hx)
  exact (World.cell?_of_block (w := W) (hO.block b hlt (.inr (by omega)))).trans (h.top x hx)
theorem TF.set {x y : Nat} (hx : x < q) (hy : y < q) (u : Int) (h : TF w W b q c F H) : TF w (W.setCell ⟨F x, y, none⟩ (.int .i64 u)) b q c F H := by
  obtain ⟨_, _, _, _, hne, ht⟩ := h.cell hx hy
  refine ⟨ht u, fun x' hx' => ?_⟩
  exact (World.cell?_of_block (w := W) (Below.heap_setCell _ _ _ _ (by show b ≠ F x; exact hne))).trans (h.top x' hx')
theorem TF.drew (h : TF w W b q c F H) : TF w W.drew b q c F H := ⟨h.tab, h.top⟩
theorem TF.all (h : TF w W b q c F H) : (∀ x, x < q → W.cell? ⟨b, x, none⟩ = some (.slice (some ⟨F x, 0, none⟩) q (H x))) ∧ (∀ x y, x < q → y < q → W.cell? ⟨F x, y, none⟩ = some (curV W ⟨F x, y, none⟩)) ∧ (∀ x y, x < q → y < q → W.frozen? ⟨F x, y, none⟩ = false) ∧ TF w W b q c F H :=
  ⟨h.top, fun x y hx hy => (h.cell hx hy).1, fun x y hx hy => (h.cell hx hy).2.1, h⟩
end
end Go.Proofs.Ythllbekoidogpaa
