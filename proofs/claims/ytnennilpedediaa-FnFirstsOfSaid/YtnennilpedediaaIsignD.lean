
/- The letters of a word where they come first: the landed code's. -/
import Derived.Test.YtnennilpedediaaIsignU
import Derived.Test.YtnennilpedediaaIword
import Derived.Test.YtnennilpedediaaSignQ
namespace Go.Proofs.Ytnennilpedediaa
open Go.RowKit Go.Lib
set_option linter.unusedVariables false
set_option linter.unusedSimpArgs false

theorem lt_take_mem {u : List UInt8} {j k : Nat} (h : j < k) (hk : j < u.length) : lt u j ∈ u.take k := by
  have hj : j < (u.take k).length := by rw [List.length_take]; omega
  have e : lt u j = (u.take k)[j] := by simp [lt, hk]
  rw [e]
  exact List.getElem_mem hj
/-- A letter's first place is here exactly if it has not come before. -/
theorem fp_now {u : List UInt8} {k : Nat} {p : Int} (h : FP u u.length (lt u k) p) (hk : k < u.length) : p = (k : Int) ↔ lt u k ∉ u.take k := by
  rcases h with ⟨h, _⟩ | ⟨a, rfl, ha, e, hn⟩
  · rw [List.take_length] at h
    exact absurd (lt_mem hk) h
  · constructor
    · intro e2
      have : a = k := by omega
      subst this
      exact hn
    · intro h
      by_cases h1 : a < k
      · exact absurd (e ▸ lt_take_mem h1 ha) h
      · by_cases h2 : k < a
        · exact absurd (lt_take_mem h2 hk) hn
        · omega
/-- The first place of a letter among three. -/
theorem pl3_fp {u : List UInt8} {x y z : Int} (hx : FP u u.length 97 x) (hy : FP u u.length 98 y) (hz : FP u u.length 99 z) {c : UInt8} (hc : okC c = true) : ∃ p : Int, FP u u.length c p ∧ c.toNat - 97 < 3 ∧ pl3 x y z (c.toNat - 97) = .int .i64 p := by
  rcases okC_iff.1 hc with rfl | rfl | rfl
  · exact ⟨x, hx, by decide, rfl⟩
  · exact ⟨y, hy, by decide, rfl⟩
  · exact ⟨z, hz, by decide, rfl⟩
theorem fsK_ok {u : List UInt8} (hw : okW u = true) : ∀ c, c ∈ fsK u u.length → okC c = true := fun c hc => (okW_iff.1 (by have := fs_ok hw; rwa [fsW_ok hw] at this)).1 c hc

theorem arun_iter {base l : Nat} {w : World} {v : Value} {L : List UInt8} (h : ARun base w v L) (hl : l < base) (s : ByteArray) (q : Nat) : ARun base (w.iterAt l s q) v L := by
  obtain ⟨a1, a2⟩ := h
  refine ⟨a1, a2.imp id ?_⟩
  rintro ⟨g, cap, cur, hv, hg, hh, r⟩
  exact ⟨g, cap, cur, hv, hg, (Lib.iterAt_other w l g s q (by omega)).trans hh, r⟩
set_option maxRecDepth 20000 in
set_option maxHeartbeats 4000000 in
theorem iFirstsOf_any (u : List UInt8) (w : World) (hn : u.length ≤ 1048576) :
    Calls Try.prog 19 #[.string (bs u)] w fun e w' => e = .returned (.string (bs (fsW u))) ∧ Below w.heap.size w w' := by
  have hsz := size_bs u
  cases hw : okW u
  · have HE := hide (fsW_not hw)
    go_enter Try.func19, Try.ntmps19
    go_wp2_with fail
    refine (iWordOk_any u _ hn).mono ?_
    rw [hw]
    rintro e w1 ⟨rfl, b1⟩
    go_wp2
    go_ret
    rw [HE.out]
    exact ⟨rfl, b1⟩
  · have HE := hide (fsW_ok hw)
    have HW := hide hw
    have hlen := (okW_iff.1 hw).2
    go_enter Try.func19, Try.ntmps19
    go_wp2_with fail
    refine (iWordOk_any u _ hn).mono ?_
    rw [hw]
    rintro e w1 ⟨rfl, b1⟩
    have z1 := b1.size
    clear hw
    go_wp2_with fail
    refine (places_any u _ HW.out).mono ?_
    rintro e w2 ⟨x, y, z, ⟨hx, hy, hz⟩, rfl, b2⟩
    have B2 := b1.trans (b2.mono z1)
    have z2 := B2.size
    have HX := hide (fun (c : UInt8) (hc : okC c = true) => pl3_fp hx hy hz hc)
    clear hx hy hz b1 b2 z1
    go_wp2
    go_loopg [4] u.length (fun g v wr => ∃ k, k ≤ u.length ∧ Hid (g = u.length - k) ∧ ARun (w2.heap.size + 2) wr v (fsK u k) ∧ wr.rowIs w2.heap.size 65 3 (pl3 x y z) ∧ wr.heap[w2.heap.size + 1]? = some (.stringIter (bs u) k) ∧ Below w2.heap.size w2 wr)
    case atStart =>
      have r1 := pl3_new w2 65 x y z
      have b3 := (Below.refl w2.heap.size w2).alloc (Nat.le_refl _) (.cells #[.int .i64 x, .int .i64 y, .int .i64 z] 65)
      have s1 : (w2.alloc (.cells #[.int .i64 x, .int .i64 y, .int .i64 z] 65)).heap.size = w2.heap.size + 1 := by simp
      generalize w2.alloc (.cells #[.int .i64 x, .int .i64 y, .int .i64 z] 65) = w3 at r1 b3 s1 ⊢
      refine ⟨0, Nat.zero_le _, rfl, ARun.nil_ _ _, World.rowIs.alloc r1 _, ?_, b3.alloc (by omega) _⟩
      rw [← s1]
      exact World.iter_heap _ _ _
    case round =>
      obtain ⟨k, hk, hg, hA, hR, hI, hB⟩ := hrel
      have hB0 := hB.size
      have hR0 := World.rowIs.lt hR
      by_cases hlt : k < u.length
      · have hp : k < (bs u).size := by omega
        have hc1 := okW_ok HW.out hlt
        have hst := step_one hlt hc1
        have hnx : ∀ ty, (Instr.next (.pointer (some ⟨w2.heap.size + 1, 0, none⟩)) true ty).run Try.prog wr = .ok (.tuple #[.bool true, .int .i64 k, .int .i32 (((lt u k).toNat : Nat) : Int)]) (wr.iterAt (w2.heap.size + 1) (bs u) (k + 1)) := fun ty => by
          rw [Lib.run_next_any_at wr (w2.heap.size + 1) (bs u) k ty hI hp, hst]
        have hI0 := (Array.getElem?_eq_some_iff.1 hI).1
        have hI1 := Lib.iterAt_heap wr (w2.heap.size + 1) (bs u) k (k + 1) hI
        have hR1 := World.rowIs.of_block hR (Lib.iterAt_other wr (w2.heap.size + 1) w2.heap.size (bs u) (k + 1) (by omega))
        have hB1 := Lib.below_iterAt hB (show w2.heap.size ≤ w2.heap.size + 1 by omega) (bs u) (k + 1)
        have hA1 := arun_iter hA (show w2.heap.size + 1 < w2.heap.size + 2 by omega) (bs u) (k + 1)
        have hzW : w2.heap.size + 2 ≤ (wr.iterAt (w2.heap.size + 1) (bs u) (k + 1)).heap.size := by
          have := (Array.getElem?_eq_some_iff.1 hI1).1
          omega
        generalize wr.iterAt (w2.heap.size + 1) (bs u) (k + 1) = W at hnx hI1 hR1 hB1 hA1 hzW
        clear hst hR hI hB hA hI0 hR0 hB0
        obtain ⟨p, hfp, hi3, hpl⟩ := HX.out _ hc1
        have hca : W.cell? ⟨w2.heap.size, (lt u k).toNat - 97, none⟩ = some (.int .i64 p) := by
          have := World.rowIs.cell hR1 hi3
          rwa [hpl] at this
        have hii : (((lt u k).toNat - 97 : Nat) : Int) < 3 := by omega
        have hfsl := fsK_len (u := u) (k := k) hk
        have hl : (fsK u k).length ≤ 1048576 := by omega
        have HN := hide (fun w => num_any (lt u k) w hc1)
        have HF := hide (fp_now hfp hlt)
        have HS := hide (show fsK u (k + 1) = if lt u k ∈ u.take k then fsK u k else fsK u k ++ [lt u k] from rfl)
        clear hfp hpl hc1 hfsl
        generalize lt u k = c at *
        by_cases he : p = (k : Int)
        · have hq : (p == (k : Int)) = true := beq_iff_eq.2 he
          have HT := hide (HS.out.trans (if_neg (HF.out.1 he)))
          clear he
          generalize c.toNat - 97 = i at *
          go_wp2_with fail
          refine (HN.out _).mono ?_
          rintro e w4 ⟨rfl, rfl⟩
          go_wp2_with (at_builtin; refine wp_app_ARun rfl (.tmp 24) (.tmp 26) rfl (w2.heap.size + 2) _ _ _ _ rfl rfl hA1 hl hzW ?_; intro v1 w5 hown1 hg1)
          have hb2 := hA1.belowOf hg1 (Nat.le_refl (w2.heap.size + 2)) hzW
          go_roundg (u.length - (k + 1))
          case measure => go_light; have := hg.out; omega
          case rel => go_light; exact ⟨k + 1, hlt, rfl, by rw [HT.out]; exact hown1, World.rowIs.of_block hR1 (hb2.block _ (by omega)), (hb2.block _ (by omega)).trans hI1, hB1.trans (hb2.mono (by omega))⟩
        · have hq : (p == (k : Int)) = false := beq_eq_false_iff_ne.2 he
          have HT := hide (HS.out.trans (if_pos (Classical.not_not.1 fun h => he (HF.out.2 h))))
          clear he
          generalize c.toNat - 97 = i at *
          go_wp2_with fail
          refine (HN.out _).mono ?_
          rintro e w4 ⟨rfl, rfl⟩
          go_wp2
          go_roundg (u.length - (k + 1))
          case measure => go_light; have := hg.out; omega
          case rel => go_light; exact ⟨k + 1, hlt, rfl, by rw [HT.out]; exact hA1, hR1, hI1, hB1⟩
      · obtain rfl : u.length = k := by omega
        have hnx : ∀ ty, (Instr.next (.pointer (some ⟨w2.heap.size + 1, 0, none⟩)) true ty).run Try.prog wr = _ := fun ty => Lib.run_next_end_at wr (w2.heap.size + 1) (bs u) u.length ty hI (by omega)
        have ht := hA.text (fsK_pos hlen.1 (Nat.le_refl _)) (fsK_ok HW.out)
        clear hI hR
        go_wp2
        go_ret
        rw [HE.out]
        exact ⟨rfl, B2.trans (hB.mono z2)⟩
end Go.Proofs.Ytnennilpedediaa
