
/- All rows of different letters: the specification's. -/
import Derived.Test.YtnennilpedediaaSignQ
import Derived.Test.YtnennilpedediaaSword
import Derived.Test.YtnennilpedediaaTab
import Derived.Test.YtnennilpedediaaStrMark
import Derived.Deep.RegionHeld3
namespace Go.Proofs.Ytnennilpedediaa
open Go.RowKit
set_option linter.unusedVariables false
set_option linter.unusedSimpArgs false

theorem len_afC (m a b : Nat) : ∀ c, (afC m a b c).length ≤ c
  | 0 => by simp [afC]
  | c + 1 => by
    have := len_afC m a b c
    rw [afC, List.length_append]
    split <;> simp <;> omega
theorem len_afB (m a : Nat) (hm : m ≤ 3) : ∀ b, (afB m a b).length ≤ 1 + b * 4
  | 0 => by simp [afB]
  | b + 1 => by
    have := len_afB m a hm b
    have h2 := len_afC m a b m
    rw [afB, List.length_append]
    split
    · simp; omega
    · rw [List.length_append]; simp; omega
theorem len_afA (m : Nat) (hm : m ≤ 3) : ∀ a, (afA m a).length ≤ a * 13
  | 0 => by simp [afA]
  | a + 1 => by
    have := len_afA m hm a
    have h2 := len_afB m a hm m
    rw [afA, List.length_append]
    omega
theorem len_afW (m : Int) : (afW m).length ≤ 39 := by
  unfold afW
  split
  · next h =>
    have h3 : m.toNat ≤ 3 := by simp at h; omega
    have := len_afA m.toNat h3 m.toNat
    omega
  · simp
theorem afA_start (m a : Nat) : afA m a ++ [[lx_ a]] = afA m a ++ afB m a 0 := rfl
theorem afA_next (m a : Nat) : afA m a ++ afB m a m = afA m (a + 1) := rfl
theorem afB_same (m a : Nat) : afA m a ++ afB m a a = afA m a ++ afB m a (a + 1) := by simp [afB]
theorem afB_start (m a b : Nat) : afA m a ++ afB m a b ++ [[lx_ a, lx_ b]] = afA m a ++ afB m a b ++ [[lx_ a, lx_ b]] ++ afC m a b 0 := by simp [afC]
theorem afB_next {m a b : Nat} (h : b ≠ a) : afA m a ++ afB m a b ++ [[lx_ a, lx_ b]] ++ afC m a b m = afA m a ++ afB m a (b + 1) := by simp [afB, h]
theorem afC_skip {m a b c : Nat} (h : ¬ (c ≠ a ∧ c ≠ b)) (L : List (List UInt8)) : L ++ afC m a b c = L ++ afC m a b (c + 1) := by
  rw [afC, if_neg h, List.append_nil]
theorem afC_more {m a b c : Nat} (h : c ≠ a ∧ c ≠ b) (L : List (List UInt8)) : L ++ afC m a b c ++ [[lx_ a, lx_ b, lx_ c]] = L ++ afC m a b (c + 1) := by
  rw [afC, if_pos h, List.append_assoc]
theorem abc_at {a : Nat} (h : a < 3) (w : World) : (Instr.slice 9 (.string ⟨#[97, 98, 99]⟩) (some (.int .i64 (a : Int))) (some (.int .i64 ((a : Int) + 1))) none).run Try.prog w = .ok (.string (bs [lx_ a])) w := slice_one (u := [97, 98, 99]) Try.underlying9 (a : Int) ((a : Int) + 1) a rfl rfl (by simp; omega) w
theorem ab_add (a b : Nat) (w : World) : (Op.stringOp .add (bs [lx_ a]) (bs [lx_ b])).run Try.prog w = .ok (.string (bs [lx_ a, lx_ b])) w := add_bs [lx_ a] [lx_ b] (by simp) w
theorem abc_add (a b c : Nat) (w : World) : (Op.stringOp .add (bs [lx_ a, lx_ b]) (bs [lx_ c])).run Try.prog w = .ok (.string (bs [lx_ a, lx_ b, lx_ c])) w := add_bs [lx_ a, lx_ b] [lx_ c] (by simp) w

set_option maxRecDepth 20000 in
set_option maxHeartbeats 8000000 in
theorem sAllFirsts_any (m : Int) (w : World) : Calls Try.prog 28 #[.int .i64 m] w (NewStr w (afW m)) := by
  have bn := (Below.refl w.heap.size w).alloc (Nat.le_refl _) (.cells #[] 9)
  have hmx : Try.prog.follows .mixedOrders = true := by kernel_rfl
  cases hc : (decide (1 ≤ m) && decide (m ≤ 3))
  · have HE := hide (afW_not hc)
    go_enter Try.func28, Try.ntmps28
    go_wp2_with fail
    refine (l1In_any m 1 3 _).mono ?_
    rw [hc]
    rintro e w' ⟨rfl, rfl⟩
    go_wp2
    go_ret
    rw [HE.out]
    exact ⟨_, 0, rfl, bn, Srow.nil _ _ _ _, by simp, by decide⟩
  · obtain ⟨n, rfl, hn1, hn3⟩ : ∃ n : Nat, m = n ∧ 1 ≤ n ∧ n ≤ 3 := ⟨m.toNat, by simp at hc; omega⟩
    have HE := hide (show afW (n : Int) = afA n n from by unfold afW; rw [hc]; rfl)
    have T0 : AStr w.heap.size (w.alloc (.cells #[] 9)) (.slice (some ⟨w.heap.size, 0, none⟩) 0 0) (afA n 0) := AStr.made (Nat.le_refl _)
    go_enter Try.func28, Try.ntmps28
    go_wp2_with fail
    refine (l1In_any (n : Int) 1 3 _).mono ?_
    rw [hc]
    rintro e w' ⟨rfl, rfl⟩
    clear hc
    go_wp2
    go_loopg [4, 3] n (fun g i v wr => ∃ a : Nat, a ≤ n ∧ Hid (g = n - a) ∧ i = .int .i64 a ∧ AStr w.heap.size wr v (afA n a) ∧ Below w.heap.size w wr)
    case atStart => exact ⟨0, Nat.zero_le _, rfl, rfl, T0, bn⟩
    case round =>
      clear T0 bn
      obtain ⟨a, ha, hg, rfl, hA, hB⟩ := hrel
      by_cases hat : a < n
      · have hai : (a : Int) < (n : Int) := by omega
        have hxa := abc_at (a := a) (by omega)
        have wa_ : IntKind.i64.wrap ((a : Int) + 1) = (a : Int) + 1 := IntWalk.i64_in _ ⟨by omega, by omega⟩
        have hl : (afA n a).length ≤ 1048576 := by have := len_afA n hn3 a; omega
        have hs := hB.size
        go_wp2_with (at_builtin; refine wp_app_str rfl (.tmp 17) (.tmp 22) rfl w.heap.size _ _ [lx_ a] _ rfl rfl hA hl hs ?_; intro v2 w2 hA2 hg2)
        have hB2 := hB.trans (hA.belowOf hg2 (Nat.le_refl _) hs)
        rw [afA_start] at hA2
        clear hA hB hg2 hl hs
        go_loopg [5, 3] n (fun g i v wr => ∃ b : Nat, b ≤ n ∧ Hid (g = n - b) ∧ i = .int .i64 b ∧ AStr w.heap.size wr v (afA n a ++ afB n a b) ∧ Below w.heap.size w wr)
        case atStart => exact ⟨0, Nat.zero_le _, rfl, rfl, hA2, hB2⟩
        case round =>
          clear hA2 hB2
          obtain ⟨b, hb, hgb, rfl, hA, hB⟩ := hrel
          by_cases hbt : b < n
          · have hbi : (b : Int) < (n : Int) := by omega
            by_cases hba : b = a
            · subst hba
              have HN := hide (afB_same n b)
              go_wp2
              go_roundg (n - (b + 1))
              case measure => go_light; have := hgb.out; omega
              case rel => go_light; exact ⟨b + 1, by omega, rfl, by go_num, by rw [← HN.out]; exact hA, hB⟩
            · have hq : ((b : Int) == (a : Int)) = false := beq_eq_false_iff_ne.2 (by omega)
              have hxb := abc_at (a := b) (by omega)
              have wb_ : IntKind.i64.wrap ((b : Int) + 1) = (b : Int) + 1 := IntWalk.i64_in _ ⟨by omega, by omega⟩
              have hab := ab_add a b
              have hl : (afA n a ++ afB n a b).length ≤ 1048576 := by have := len_afA n hn3 a; have := len_afB n a hn3 b; rw [List.length_append]; omega
              have hs : w.heap.size ≤ wr.drew.heap.size := hB.size
              have hAd : AStr w.heap.size wr.drew _ _ := hA
              have HNX := hide (afB_next (m := n) hba)
              have HBA := hide hba
              have HL := hide hl
              clear hba hl
              go_wp2
              refine wp_region_noPanic ?_
              refine wp_region_any hmx ?_
              change wpAny _ _ _ _ _ _ _ (World.drew _)
              refine wpAny_take (i := 0) (v := ?_) (by simp only [List.getElem?_toArray, List.getElem?_cons_zero]; rfl) (by kernel_rfl) (by kernel_rfl) (by kernel_rfl) (fun _ _ _ h => h) (Or.inl ⟨by rfl, ?_⟩) ?_
              rotate_left
              · intro w_
                first
                  | (go_simp; done)
                  | (go_simp; with_reducible rfl)
              try simp only [Act.put, List.setIfInBounds_toArray, List.set_cons_zero, List.set_cons_succ]
              refine wpAny_take (i := 1) (v := ?_) (by simp only [List.getElem?_toArray, List.getElem?_cons_succ, List.getElem?_cons_zero]; rfl) (by kernel_rfl) (by kernel_rfl) (by kernel_rfl) (fun _ _ _ h => h) (Or.inl ⟨by rfl, ?_⟩) ?_
              rotate_left
              · intro w_
                first
                  | (go_simp; done)
                  | (go_simp; with_reducible rfl)
              try simp only [Act.put, List.setIfInBounds_toArray, List.set_cons_zero, List.set_cons_succ]
              refine wpAny_take (i := 2) (v := ?_) (by simp only [List.getElem?_toArray, List.getElem?_cons_succ, List.getElem?_cons_zero]; rfl) (by kernel_rfl) (by kernel_rfl) (by kernel_rfl) (fun _ _ _ h => h) (Or.inl ⟨by rfl, ?_⟩) ?_
              rotate_left
              · intro w_
                first
                  | (go_simp; done)
                  | (go_simp; with_reducible rfl)
              try simp only [Act.put, List.setIfInBounds_toArray, List.set_cons_zero, List.set_cons_succ]
              refine wpAny_take (i := 3) (v := ?_) (by simp only [List.getElem?_toArray, List.getElem?_cons_succ, List.getElem?_cons_zero]; rfl) (by kernel_rfl) (by kernel_rfl) (by kernel_rfl) (fun _ _ _ h => h) (Or.inl ⟨by rfl, ?_⟩) ?_
              rotate_left
              · intro w_
                first
                  | (go_simp; done)
                  | (go_simp; with_reducible rfl)
              try simp only [Act.put, List.setIfInBounds_toArray, List.set_cons_zero, List.set_cons_succ]
              refine wpAny_take (i := 4) (v := ?_) (by simp only [List.getElem?_toArray, List.getElem?_cons_succ, List.getElem?_cons_zero]; rfl) (by kernel_rfl) (by kernel_rfl) (by kernel_rfl) (fun _ _ _ h => h) (Or.inl ⟨by rfl, ?_⟩) ?_
              rotate_left
              · intro w_
                first
                  | (go_simp; done)
                  | (go_simp; with_reducible rfl)
              try simp only [Act.put, List.setIfInBounds_toArray, List.set_cons_zero, List.set_cons_succ]
              refine wpAny_take (i := 5) (v := ?_) (by simp only [List.getElem?_toArray, List.getElem?_cons_succ, List.getElem?_cons_zero]; rfl) (by kernel_rfl) (by kernel_rfl) (by kernel_rfl) (fun _ _ _ h => h) (Or.inl ⟨by rfl, ?_⟩) ?_
              rotate_left
              · intro w_
                first
                  | (go_simp; done)
                  | (go_simp; with_reducible rfl)
              try simp only [Act.put, List.setIfInBounds_toArray, List.set_cons_zero, List.set_cons_succ]
              refine wpAny_take (i := 6) (v := ?_) (by simp only [List.getElem?_toArray, List.getElem?_cons_succ, List.getElem?_cons_zero]; rfl) (by kernel_rfl) (by kernel_rfl) (by kernel_rfl) (fun _ _ _ h => h) (Or.inl ⟨by rfl, ?_⟩) ?_
              rotate_left
              · intro w_
                first
                  | (go_simp; done)
                  | (go_simp; with_reducible rfl)
              try simp only [Act.put, List.setIfInBounds_toArray, List.set_cons_zero, List.set_cons_succ]
              refine wpAny_take (i := 7) (v := ?_) (by simp only [List.getElem?_toArray, List.getElem?_cons_succ, List.getElem?_cons_zero]; rfl) (by kernel_rfl) (by kernel_rfl) (by kernel_rfl) (fun _ _ _ h => h) (Or.inl ⟨by rfl, ?_⟩) ?_
              rotate_left
              · intro w_
                first
                  | (go_simp; done)
                  | (go_simp; with_reducible rfl)
              try simp only [Act.put, List.setIfInBounds_toArray, List.set_cons_zero, List.set_cons_succ]
              refine wpAny_take (i := 8) (v := ?_) (by simp only [List.getElem?_toArray, List.getElem?_cons_succ, List.getElem?_cons_zero]; rfl) (by kernel_rfl) (by kernel_rfl) (by kernel_rfl) (fun _ _ _ h => h) (Or.inl ⟨by rfl, ?_⟩) ?_
              rotate_left
              · intro w_
                first
                  | (go_simp; done)
                  | (go_simp; with_reducible rfl)
              try simp only [Act.put, List.setIfInBounds_toArray, List.set_cons_zero, List.set_cons_succ]
              refine wpAny_take (i := 9) (v := ?_) (by simp only [List.getElem?_toArray, List.getElem?_cons_succ, List.getElem?_cons_zero]; rfl) (by kernel_rfl) (by kernel_rfl) (by kernel_rfl) (fun _ _ _ h => h) (Or.inl ⟨by rfl, ?_⟩) ?_
              rotate_left
              · intro w_
                first
                  | (go_simp; done)
                  | (go_simp; with_reducible rfl)
              try simp only [Act.put, List.setIfInBounds_toArray, List.set_cons_zero, List.set_cons_succ]
              refine wpAny_ready (rs := [10]) (by kernel_rfl) (by simp) ?_
              refine AllReady.cons (by simp only [List.getElem?_toArray, List.getElem?_cons_succ, List.getElem?_cons_zero]; rfl) (fun K hK => ?_) AllReady.nil
              go_simp
              refine hK _ _ ?_
              clear hK K
              try simp only [Act.put, List.setIfInBounds_toArray, List.set_cons_zero, List.set_cons_succ]
              refine wpAny_ready (rs := [11]) (by kernel_rfl) (by simp) ?_
              refine AllReady.cons (by simp only [List.getElem?_toArray, List.getElem?_cons_succ, List.getElem?_cons_zero]; rfl) (fun K hK => ?_) AllReady.nil
              refine step_app_str rfl (.tmp 32) (.tmp 42) rfl w.heap.size _ _ [lx_ a, lx_ b] _ rfl rfl hAd HL.out hs ?_
              intro v2 w2 hA2 hg2
              refine hK _ _ ?_
              clear hK K
              try simp only [Act.put, List.setIfInBounds_toArray, List.set_cons_zero, List.set_cons_succ]
              refine wpAny_take (i := 12) (v := ?_) (by simp only [List.getElem?_toArray, List.getElem?_cons_succ, List.getElem?_cons_zero]; rfl) (by kernel_rfl) (by kernel_rfl) (by kernel_rfl) (fun _ _ _ h => h) (Or.inl ⟨by rfl, ?_⟩) ?_
              rotate_left
              · intro w_
                first
                  | (go_simp; done)
                  | (go_simp; with_reducible rfl)
              try simp only [Act.put, List.setIfInBounds_toArray, List.set_cons_zero, List.set_cons_succ]
              refine wpAny_done (by kernel_rfl) (NoPanic.normal ?_) _
              have hB2 := hB.drew.trans (hAd.belowOf hg2 (Nat.le_refl _) hs)
              rw [afB_start] at hA2
              clear hA hB hg2 hs hAd hq
              go_wp2
              go_loopg [6, 3] n (fun g i v wr => ∃ c : Nat, c ≤ n ∧ Hid (g = n - c) ∧ i = .int .i64 c ∧ AStr w.heap.size wr v (afA n a ++ afB n a b ++ [[lx_ a, lx_ b]] ++ afC n a b c) ∧ Below w.heap.size w wr)
              case atStart => exact ⟨0, Nat.zero_le _, rfl, rfl, hA2, hB2⟩
              case round =>
                clear hA2 hB2
                obtain ⟨c, hcc, hgc, rfl, hA, hB⟩ := hrel
                by_cases hct : c < n
                · have hci : (c : Int) < (n : Int) := by omega
                  by_cases hca : c = a
                  · have HN := hide (afC_skip (m := n) (a := a) (b := b) (c := c) (fun h => h.1 hca) (afA n a ++ afB n a b ++ [[lx_ a, lx_ b]]))
                    subst hca
                    go_wp2
                    go_roundg (n - (c + 1))
                    case measure => go_light; have := hgc.out; omega
                    case rel => go_light; exact ⟨c + 1, by omega, rfl, by go_num, by rw [← HN.out]; exact hA, hB⟩
                  · have hqa : ((c : Int) == (a : Int)) = false := beq_eq_false_iff_ne.2 (by omega)
                    have hqa2 : ((c : Int) != (a : Int)) = true := by rw [bne, hqa]; rfl
                    by_cases hcb : c = b
                    · have HN := hide (afC_skip (m := n) (a := a) (b := b) (c := c) (fun h => h.2 hcb) (afA n a ++ afB n a b ++ [[lx_ a, lx_ b]]))
                      subst hcb
                      clear hca
                      go_wp2
                      go_roundg (n - (c + 1))
                      case measure => go_light; have := hgc.out; omega
                      case rel => go_light; exact ⟨c + 1, by omega, rfl, by go_num, by rw [← HN.out]; exact hA, hB⟩
                    · have hqb : ((c : Int) == (b : Int)) = false := beq_eq_false_iff_ne.2 (by omega)
                      have hqb2 : ((c : Int) != (b : Int)) = true := by rw [bne, hqb]; rfl
                      have HN := hide (afC_more (m := n) (a := a) (b := b) (c := c) ⟨hca, hcb⟩ (afA n a ++ afB n a b ++ [[lx_ a, lx_ b]]))
                      have hxc := abc_at (a := c) (by omega)
                      have wc_ : IntKind.i64.wrap ((c : Int) + 1) = (c : Int) + 1 := IntWalk.i64_in _ ⟨by omega, by omega⟩
                      have habc := abc_add a b c
                      have hl : (afA n a ++ afB n a b ++ [[lx_ a, lx_ b]] ++ afC n a b c).length ≤ 1048576 := by
                        have := len_afA n hn3 a; have := len_afB n a hn3 b; have := len_afC n a b c
                        rw [List.length_append, List.length_append, List.length_append]; simp; omega
                      have hs : w.heap.size ≤ wr.drew.heap.size := hB.size
                      have hAd : AStr w.heap.size wr.drew _ _ := hA
                      have HL := hide hl
                      clear hca hcb hl
                      go_wp2
                      refine wp_region_noPanic ?_
                      refine wp_region_any hmx ?_
                      change wpAny _ _ _ _ _ _ _ (World.drew _)
                      refine wpAny_take (i := 0) (v := ?_) (by simp only [List.getElem?_toArray, List.getElem?_cons_zero]; rfl) (by kernel_rfl) (by kernel_rfl) (by kernel_rfl) (fun _ _ _ h => h) (Or.inl ⟨by rfl, ?_⟩) ?_
                      rotate_left
                      · intro w_
                        first
                          | (go_simp; done)
                          | (go_simp; with_reducible rfl)
                      try simp only [Act.put, List.setIfInBounds_toArray, List.set_cons_zero, List.set_cons_succ]
                      refine wpAny_take (i := 1) (v := ?_) (by simp only [List.getElem?_toArray, List.getElem?_cons_succ, List.getElem?_cons_zero]; rfl) (by kernel_rfl) (by kernel_rfl) (by kernel_rfl) (fun _ _ _ h => h) (Or.inl ⟨by rfl, ?_⟩) ?_
                      rotate_left
                      · intro w_
                        first
                          | (go_simp; done)
                          | (go_simp; with_reducible rfl)
                      try simp only [Act.put, List.setIfInBounds_toArray, List.set_cons_zero, List.set_cons_succ]
                      refine wpAny_take (i := 2) (v := ?_) (by simp only [List.getElem?_toArray, List.getElem?_cons_succ, List.getElem?_cons_zero]; rfl) (by kernel_rfl) (by kernel_rfl) (by kernel_rfl) (fun _ _ _ h => h) (Or.inl ⟨by rfl, ?_⟩) ?_
                      rotate_left
                      · intro w_
                        first
                          | (go_simp; done)
                          | (go_simp; with_reducible rfl)
                      try simp only [Act.put, List.setIfInBounds_toArray, List.set_cons_zero, List.set_cons_succ]
                      refine wpAny_take (i := 3) (v := ?_) (by simp only [List.getElem?_toArray, List.getElem?_cons_succ, List.getElem?_cons_zero]; rfl) (by kernel_rfl) (by kernel_rfl) (by kernel_rfl) (fun _ _ _ h => h) (Or.inl ⟨by rfl, ?_⟩) ?_
                      rotate_left
                      · intro w_
                        first
                          | (go_simp; done)
                          | (go_simp; with_reducible rfl)
                      try simp only [Act.put, List.setIfInBounds_toArray, List.set_cons_zero, List.set_cons_succ]
                      refine wpAny_take (i := 4) (v := ?_) (by simp only [List.getElem?_toArray, List.getElem?_cons_succ, List.getElem?_cons_zero]; rfl) (by kernel_rfl) (by kernel_rfl) (by kernel_rfl) (fun _ _ _ h => h) (Or.inl ⟨by rfl, ?_⟩) ?_
                      rotate_left
                      · intro w_
                        first
                          | (go_simp; done)
                          | (go_simp; with_reducible rfl)
                      try simp only [Act.put, List.setIfInBounds_toArray, List.set_cons_zero, List.set_cons_succ]
                      refine wpAny_take (i := 5) (v := ?_) (by simp only [List.getElem?_toArray, List.getElem?_cons_succ, List.getElem?_cons_zero]; rfl) (by kernel_rfl) (by kernel_rfl) (by kernel_rfl) (fun _ _ _ h => h) (Or.inl ⟨by rfl, ?_⟩) ?_
                      rotate_left
                      · intro w_
                        first
                          | (go_simp; done)
                          | (go_simp; with_reducible rfl)
                      try simp only [Act.put, List.setIfInBounds_toArray, List.set_cons_zero, List.set_cons_succ]
                      refine wpAny_take (i := 6) (v := ?_) (by simp only [List.getElem?_toArray, List.getElem?_cons_succ, List.getElem?_cons_zero]; rfl) (by kernel_rfl) (by kernel_rfl) (by kernel_rfl) (fun _ _ _ h => h) (Or.inl ⟨by rfl, ?_⟩) ?_
                      rotate_left
                      · intro w_
                        first
                          | (go_simp; done)
                          | (go_simp; with_reducible rfl)
                      try simp only [Act.put, List.setIfInBounds_toArray, List.set_cons_zero, List.set_cons_succ]
                      refine wpAny_take (i := 7) (v := ?_) (by simp only [List.getElem?_toArray, List.getElem?_cons_succ, List.getElem?_cons_zero]; rfl) (by kernel_rfl) (by kernel_rfl) (by kernel_rfl) (fun _ _ _ h => h) (Or.inl ⟨by rfl, ?_⟩) ?_
                      rotate_left
                      · intro w_
                        first
                          | (go_simp; done)
                          | (go_simp; with_reducible rfl)
                      try simp only [Act.put, List.setIfInBounds_toArray, List.set_cons_zero, List.set_cons_succ]
                      refine wpAny_take (i := 8) (v := ?_) (by simp only [List.getElem?_toArray, List.getElem?_cons_succ, List.getElem?_cons_zero]; rfl) (by kernel_rfl) (by kernel_rfl) (by kernel_rfl) (fun _ _ _ h => h) (Or.inl ⟨by rfl, ?_⟩) ?_
                      rotate_left
                      · intro w_
                        first
                          | (go_simp; done)
                          | (go_simp; with_reducible rfl)
                      try simp only [Act.put, List.setIfInBounds_toArray, List.set_cons_zero, List.set_cons_succ]
                      refine wpAny_take (i := 9) (v := ?_) (by simp only [List.getElem?_toArray, List.getElem?_cons_succ, List.getElem?_cons_zero]; rfl) (by kernel_rfl) (by kernel_rfl) (by kernel_rfl) (fun _ _ _ h => h) (Or.inl ⟨by rfl, ?_⟩) ?_
                      rotate_left
                      · intro w_
                        first
                          | (go_simp; done)
                          | (go_simp; with_reducible rfl)
                      try simp only [Act.put, List.setIfInBounds_toArray, List.set_cons_zero, List.set_cons_succ]
                      refine wpAny_take (i := 10) (v := ?_) (by simp only [List.getElem?_toArray, List.getElem?_cons_succ, List.getElem?_cons_zero]; rfl) (by kernel_rfl) (by kernel_rfl) (by kernel_rfl) (fun _ _ _ h => h) (Or.inl ⟨by rfl, ?_⟩) ?_
                      rotate_left
                      · intro w_
                        first
                          | (go_simp; done)
                          | (go_simp; with_reducible rfl)
                      try simp only [Act.put, List.setIfInBounds_toArray, List.set_cons_zero, List.set_cons_succ]
                      refine wpAny_take (i := 11) (v := ?_) (by simp only [List.getElem?_toArray, List.getElem?_cons_succ, List.getElem?_cons_zero]; rfl) (by kernel_rfl) (by kernel_rfl) (by kernel_rfl) (fun _ _ _ h => h) (Or.inl ⟨by rfl, ?_⟩) ?_
                      rotate_left
                      · intro w_
                        first
                          | (go_simp; done)
                          | (go_simp; with_reducible rfl)
                      try simp only [Act.put, List.setIfInBounds_toArray, List.set_cons_zero, List.set_cons_succ]
                      refine wpAny_take (i := 12) (v := ?_) (by simp only [List.getElem?_toArray, List.getElem?_cons_succ, List.getElem?_cons_zero]; rfl) (by kernel_rfl) (by kernel_rfl) (by kernel_rfl) (fun _ _ _ h => h) (Or.inl ⟨by rfl, ?_⟩) ?_
                      rotate_left
                      · intro w_
                        first
                          | (go_simp; done)
                          | (go_simp; with_reducible rfl)
                      try simp only [Act.put, List.setIfInBounds_toArray, List.set_cons_zero, List.set_cons_succ]
                      refine wpAny_take (i := 13) (v := ?_) (by simp only [List.getElem?_toArray, List.getElem?_cons_succ, List.getElem?_cons_zero]; rfl) (by kernel_rfl) (by kernel_rfl) (by kernel_rfl) (fun _ _ _ h => h) (Or.inl ⟨by rfl, ?_⟩) ?_
                      rotate_left
                      · intro w_
                        first
                          | (go_simp; done)
                          | (go_simp; with_reducible rfl)
                      try simp only [Act.put, List.setIfInBounds_toArray, List.set_cons_zero, List.set_cons_succ]
                      refine wpAny_take (i := 14) (v := ?_) (by simp only [List.getElem?_toArray, List.getElem?_cons_succ, List.getElem?_cons_zero]; rfl) (by kernel_rfl) (by kernel_rfl) (by kernel_rfl) (fun _ _ _ h => h) (Or.inl ⟨by rfl, ?_⟩) ?_
                      rotate_left
                      · intro w_
                        first
                          | (go_simp; done)
                          | (go_simp; with_reducible rfl)
                      try simp only [Act.put, List.setIfInBounds_toArray, List.set_cons_zero, List.set_cons_succ]
                      refine wpAny_ready (rs := [15]) (by kernel_rfl) (by simp) ?_
                      refine AllReady.cons (by simp only [List.getElem?_toArray, List.getElem?_cons_succ, List.getElem?_cons_zero]; rfl) (fun K hK => ?_) AllReady.nil
                      go_simp
                      refine hK _ _ ?_
                      clear hK K
                      try simp only [Act.put, List.setIfInBounds_toArray, List.set_cons_zero, List.set_cons_succ]
                      refine wpAny_ready (rs := [16]) (by kernel_rfl) (by simp) ?_
                      refine AllReady.cons (by simp only [List.getElem?_toArray, List.getElem?_cons_succ, List.getElem?_cons_zero]; rfl) (fun K hK => ?_) AllReady.nil
                      refine step_app_str rfl (.tmp 57) (.tmp 72) rfl w.heap.size _ _ [lx_ a, lx_ b, lx_ c] _ rfl rfl hAd HL.out hs ?_
                      intro v2 w2 hA2 hg2
                      refine hK _ _ ?_
                      clear hK K
                      try simp only [Act.put, List.setIfInBounds_toArray, List.set_cons_zero, List.set_cons_succ]
                      refine wpAny_take (i := 17) (v := ?_) (by simp only [List.getElem?_toArray, List.getElem?_cons_succ, List.getElem?_cons_zero]; rfl) (by kernel_rfl) (by kernel_rfl) (by kernel_rfl) (fun _ _ _ h => h) (Or.inl ⟨by rfl, ?_⟩) ?_
                      rotate_left
                      · intro w_
                        first
                          | (go_simp; done)
                          | (go_simp; with_reducible rfl)
                      try simp only [Act.put, List.setIfInBounds_toArray, List.set_cons_zero, List.set_cons_succ]
                      refine wpAny_done (by kernel_rfl) (NoPanic.normal ?_) _
                      have hB2 := hB.drew.trans (hAd.belowOf hg2 (Nat.le_refl _) hs)
                      go_wp2
                      go_roundg (n - (c + 1))
                      case measure => go_light; have := hgc.out; omega
                      case rel => go_light; exact ⟨c + 1, by omega, rfl, by go_num, by rw [← HN.out]; exact hA2, hB2⟩
                · obtain rfl : n = c := by omega
                  go_wp2
                  go_roundg (n - (b + 1))
                  case measure => go_light; have := hgb.out; omega
                  case rel => go_light; exact ⟨b + 1, by omega, rfl, by go_num, by rw [← HNX.out]; exact hA, hB⟩
          · obtain rfl : n = b := by omega
            go_wp2
            go_roundg (n - (a + 1))
            case measure => go_light; have := hg.out; omega
            case rel => go_light; exact ⟨a + 1, by omega, rfl, by go_num, hA, hB⟩
      · obtain rfl : n = a := by omega
        obtain ⟨A9, c9, rfl, d1, d2, hR⟩ := hA.val
        go_wp2
        go_ret
        rw [HE.out]
        exact ⟨A9, c9, rfl, hB, hR, d1, d2⟩
end Go.Proofs.Ytnennilpedediaa
