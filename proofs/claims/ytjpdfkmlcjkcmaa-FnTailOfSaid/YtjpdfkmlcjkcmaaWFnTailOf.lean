/- The walk of FnTailOf. -/
import Derived.Test.YtjpdfkmlcjkcmaaSword
import Derived.Test.YtjpdfkmlcjkcmaaIword
import Derived.Test.YtjpdfkmlcjkcmaaDrawWords
import Derived.Deep.RegionHeld3
namespace Go.Proofs.Ytjpdfkmlcjkcmaa
open Go.RowKit
set_option linter.unusedVariables false

set_option maxRecDepth 20000 in
set_option maxHeartbeats 8000000 in
theorem fnTailOf_walk (A : Option Addr) (n c : Nat) (w : World) (h : Bytes w w.heap.size A n) (hc : n ≤ c) (hc2 : c ≤ 9223372036854775807) :
    Calls Try.prog 7 #[.slice A n c] w fun e w' => e = .returned (.bool true) ∧ Below w.heap.size w w' := by
  by_cases hn : (1048576 : Int) < (n : Int)
  · go_enter Try.func7, Try.ntmps7
    go_wp2
    go_ret
    exact ⟨rfl, Below.refl _ _⟩
  · go_enter Try.func7, Try.ntmps7
    go_wp2_with fail
    refine (drawTailOf_any A n c w h hc hc2).mono ?_
    rintro e w1 ⟨u, rfl, hu, B1⟩
    have hn1 : u.length ≤ 1048576 := by omega
    have hsz := size_bs u
    cases hw : okW u
    · have HE : Hid (llW u = [] ∧ tlW u = []) := ⟨llW_not hw, tlW_not hw⟩
      have hb0 := toList_bs []
      go_wp2_with fail
      refine (iTailOf_any u _ hn1).mono ?_
      rw [HE.out.1, HE.out.2, hw]
      rintro e w2 ⟨rfl, b2⟩
      have B2 := B1.trans (b2.mono B1.size)
      go_wp2_with fail
      refine (sTailOf_any u _ hn1).mono ?_
      rw [HE.out.1, HE.out.2, hw]
      rintro e w3 ⟨rfl, q3⟩
      have B3 := B2.trans (q3.below w.heap.size)
      go_wp2_with fail
      refine (alive_any _).mono ?_
      rintro e w4 ⟨rfl, b4⟩
      go_wp2
      go_ret
      exact ⟨rfl, B3.trans (b4.mono B3.size)⟩
    · have k1 := tlIs (okW_ne hw)
      have HE := hide (show llW u = [ll u] ∧ tlW u = tl u from ⟨llW_ok hw, tlW_ok hw⟩)
      obtain ⟨H, hH⟩ : ∃ H, H = tl u := ⟨_, rfl⟩
      obtain ⟨x, hx⟩ : ∃ x, x = ll u := ⟨_, rfl⟩
      rw [← hH, ← hx] at k1
      have HE2 : Hid (llW u = [x] ∧ tlW u = H) := by rw [hH, hx]; exact HE.out
      have hlt := k1.lt
      have ht : u.drop (u.length - (1 + H.length)) = [x] ++ H := by
        obtain ⟨r, e, _⟩ := k1.ex
        rw [e]
        rw [List.drop_left' (by simp; omega)]
        rfl
      have hob : okW ([x] ++ H) = true := okW_sub hw (fun c hc => k1.mem.2 (by simpa [or_comm] using hc)) (by rw [List.length_append]; simp; omega) (by simp)
      have HL := hide (letN_mem hob hw (fun c => by rw [k1.mem]; simp [or_comm]))
      have hnew := k1.new
      have hadd := fun w => add_bs (P := Try.prog) [x] H (by simp; omega) w
      have hsl := fun w => slice_from Try.underlying9 u ((u.length : Int) - (1 + (H.length : Int))) (u.length - (1 + H.length)) (by omega) (by omega) w
      rw [ht] at hsl
      have hz1 : (bs [x]).size = 1 := by rw [size_bs]; rfl
      have hz2 : (bs ([x] ++ H)).size = 1 + H.length := by rw [size_bs, List.length_append]; rfl
      have hzH := size_bs H
      have hnb : ([x] ++ H).length ≤ 1048576 := by rw [List.length_append]; simp; omega
      have hsli := fun k (hk : k < H.length) w => slice_one Try.underlying9 H (k : Int) ((k : Int) + 1) k rfl rfl hk w
      have HNE := hide (fun k (hk : k < H.length) => (show ((bs [lt H k]).toList == (bs [x]).toList) = false from by
        rw [eq_bs, decide_eq_false_iff_not]
        intro e
        exact hnew (by rw [← (List.cons.inj e).1]; exact lt_mem hk)))
      have HSL := hide hsli
      obtain ⟨V, hV⟩ : ∃ V, V = [x] ++ H := ⟨_, rfl⟩
      rw [← hV] at hadd hsl hz2 hnb HL
      clear hH hx HE k1 ht hnew hsli hob hV
      go_wp2_with fail
      refine (iTailOf_any u _ hn1).mono ?_
      rw [HE2.out.1, HE2.out.2, hw]
      rintro e w2 ⟨rfl, b2⟩
      have B2 := B1.trans (b2.mono B1.size)
      go_wp2_with fail
      refine (sTailOf_any u _ hn1).mono ?_
      rw [HE2.out.1, HE2.out.2, hw]
      rintro e w3 ⟨rfl, q3⟩
      have B3 := B2.trans (q3.below w.heap.size)
      go_wp2
      go_loopg [10] H.length (fun g i wr => ∃ k : Nat, k ≤ H.length ∧ Hid (g = H.length - k) ∧ i = .int .i64 k ∧ w3 = wr)
      case atStart => exact ⟨0, Nat.zero_le _, rfl, rfl, rfl⟩
      case round =>
        obtain ⟨k, hk, hgk, rfl, rfl⟩ := hrel
        by_cases hkt : k < H.length
        · have hs1 := HSL.out k hkt
          have hne := HNE.out k hkt
          go_wp2
          go_roundg (H.length - (k + 1))
          case measure => go_light; have := hgk.out; omega
          case rel => go_light; exact ⟨k + 1, by omega, rfl, by go_num, rfl⟩
        · obtain rfl : H.length = k := by omega
          go_wp2_with fail
          refine (iLettersIn_any V _ hnb).mono ?_
          rw [HL.out]
          rintro e w4 ⟨rfl, b4⟩
          have B4 := B3.trans (b4.mono B3.size)
          go_wp2_with fail
          refine (iLettersIn_any u _ hn1).mono ?_
          rintro e w5 ⟨rfl, b5⟩
          have B5 := B4.trans (b5.mono B4.size)
          go_wp2
          go_ret
          exact ⟨rfl, B5⟩

end Go.Proofs.Ytjpdfkmlcjkcmaa
