
/- A word turned round: the landed code's, with the library's slices.Reverse at runes; and tails. -/
import Derived.Test.YtjpdfkmlcjkcmaaIwordD
import Derived.Sort.WalkB12
import Derived.Lib.SlicesMore
import Derived.Laws.Cover4
import Derived.Laws.IdiomStrings
import Derived.Shelf.RegionOpenPlain
namespace Go.Proofs.Ytjpdfkmlcjkcmaa
open Go.RowKit Go.Lib Go.Sort Go.Shelf
set_option linter.unusedVariables false
set_option linter.unusedSimpArgs false

/-- A rune as memory holds it. -/
abbrev rn (z : Int) : Value := .int .i32 z
/-- A word's letters as numbers. -/
def nums (u : List UInt8) : List Int := u.map fun c => ((c.toNat : Nat) : Int)
theorem len_nums (u : List UInt8) : (nums u).length = u.length := by simp [nums]
theorem runes_from {u : List UInt8} (h : ∀ j, j < u.length → okC (lt u j) = true) : ∀ (b i : Nat) (acc : Array Value), i ≤ u.length → u.length ≤ i + b → Conv.runesFrom (bs u) b i acc = acc ++ ((nums (u.drop i)).map rn).toArray
  | 0, i, acc, hi, hb => by
    have : u.drop i = [] := by rw [List.drop_eq_nil_iff]; omega
    rw [this]
    simp [Conv.runesFrom, nums]
  | b + 1, i, acc, hi, hb => by
    by_cases hlt : i < u.length
    · have e : lt u i = u[i] := by simp [lt, hlt]
      have hd : u.drop i = lt u i :: u.drop (i + 1) := by rw [e, List.drop_eq_getElem_cons hlt]
      have hs : i < (bs u).size := by rw [size_bs]; exact hlt
      have := runes_from h b (i + 1) (acc.push (.int .i32 (Int.ofNat (lt u i).toNat))) (by omega) (by omega)
      unfold Conv.runesFrom
      rw [if_pos hs, step_one hlt (h i hlt)]
      refine Eq.trans this ?_
      rw [hd]
      simp [nums, rn]
    · have : u.drop i = [] := by rw [List.drop_eq_nil_iff]; omega
      have hs : ¬ i < (bs u).size := by rw [size_bs]; exact hlt
      unfold Conv.runesFrom
      rw [if_neg hs, this]
      simp [nums]
theorem runes_of {u : List UInt8} (h : ∀ j, j < u.length → okC (lt u j) = true) : Conv.runesFrom (bs u) (bs u).size 0 #[] = ((nums u).map rn).toArray := by
  rw [runes_from h _ 0 #[] (Nat.zero_le _) (by rw [size_bs]; omega)]
  simp
theorem encode_ok {c : UInt8} (h : okC c = true) : Utf8.encode ((c.toNat : Nat) : Int) = bs [c] := by
  rcases okC_iff.1 h with rfl | rfl | rfl <;> kernel_rfl
theorem fold_ok : ∀ (v s : List UInt8), (∀ c, c ∈ v → okC c = true) → (nums v).foldl (fun r n => r ++ Utf8.encode n) (bs s) = bs (s ++ v)
  | [], s, _ => by simp [nums]
  | c :: v, s, h => by
    have hc := encode_ok (h c (by simp))
    have := fold_ok v (s ++ [c]) (fun d hd => h d (by simp [hd]))
    unfold nums at this ⊢
    rw [List.map_cons, List.foldl_cons, hc, app_bs, this]
    simp
theorem bytes_ok {v : List UInt8} (h : ∀ c, c ∈ v → okC c = true) : runesBytes (nums v) = bs v := by
  unfold runesBytes
  exact fold_ok v [] h

set_option maxHeartbeats 1600000 in
set_option maxRecDepth 1000000 in
theorem turned_any (blk off cap : Nat) (d : Array Int) (w : World) (hH : Holds rn w blk off d) (hsz : d.size ≤ 1048576) :
    Calls Try.prog 46 #[.slice (some ⟨blk, off, none⟩) d.size cap] w fun e w' => e = .returned (.tuple #[]) ∧ ∃ n, w' = putRow rn (Sort.ahead w n) blk off d.reverse := by
  have mixed : Try.prog.follows .mixedOrders = true := by kernel_rfl
  go_enter Try.func46, Try.ntmps46
  go_wp2
  go_loopg [2, 3] d.size (fun k s2 s3 wr => ∃ (i jn : Nat) (jz : Int) (dk : Array Int) (n : Nat), s2 = .int .i64 i ∧ s3 = .int .i64 jz ∧ ((i : Int) < jz → jz = jn ∧ jn < d.size) ∧ (¬ (i : Int) < jz → ¬ i < jn) ∧ jn - i ≤ k ∧
    dk.size = d.size ∧ wr = putRow rn (Sort.ahead w n) blk off dk ∧ reverseLoop i jn dk = reverseLoop 0 (d.size - 1) d)
  case atStart => exact ⟨0, d.size - 1, (d.size : Int) - 1, d, 0, rfl, rfl, fun h => ⟨by omega, by omega⟩, fun h => by omega, by omega, rfl, (putRow_self rn w blk off d hH).symm, rfl⟩
  case round =>
    obtain ⟨i, jn, jz, dk, n, rfl, rfl, h1, h2, hk, hds, hwr, heq⟩ := hrel
    by_cases hlt : (i : Int) < jz
    · obtain ⟨rfl, hjn⟩ := h1 hlt
      have hij : i < jn := by omega
      have hi1 : i < d.size := by omega
      have hHk : Holds rn wr blk off dk := by rw [hwr]; exact holds_putRow rn _ blk off d dk (holds_ahead rn w n blk off d hH) hds
      obtain ⟨ci, fi⟩ := hHk i (by omega)
      obtain ⟨cj, fj⟩ := hHk jn (by omega)
      have A : Aside (wr = putRow rn (Sort.ahead w n) blk off dk) := hwr
      clear hwr hHk hH h1 h2
      go_wp2_with fail
      go_region_o
      go_wp2
      go_roundg (jn - 1 - (i + 1))
      case measure => omega
      case rel =>
        rw [reverseLoop, if_pos hij] at heq
        exact ⟨i + 1, jn - 1, (jn : Int) - 1, swp dk i jn, n + 1, by simp, rfl, fun h => ⟨by omega, by omega⟩, fun h => by omega, Nat.le_refl _, by rw [size_swp]; exact hds,
          swap_world rn (by omega) (by omega) A.out (by first | rfl | simp [rn, getElem!_pos, show jn < dk.size by omega]) (by first | rfl | simp [rn, getElem!_pos, show i < dk.size by omega]), heq⟩
    · have hnot := h2 hlt
      go_wp2
      go_end0
      refine ⟨rfl, n, ?_⟩
      rw [reverseLoop, if_neg hnot] at heq
      rw [← Lib.reverseLoop_reverse, ← heq]

theorem cell_of_holds {W : World} {blk : Nat} {d : Array Int} (h : Holds rn W blk 0 d) (j : Nat) (hj : j < d.toList.length) : W.cell? (Addr.add ⟨blk, 0, none⟩ j) = some (.int .i32 (d.toList.getD j 0)) := by
  have hj2 : j < d.size := by simpa using hj
  have := (h j hj2).1
  rw [getElem!_pos d j hj2] at this
  have e : (Addr.add ⟨blk, 0, none⟩ j) = ⟨blk, 0 + j, none⟩ := by simp [Addr.add]; omega
  rw [e, this]
  have : d.toList.getD j 0 = d[j] := by simp [List.getD, hj2]
  rw [this]
theorem holds_new (w : World) (xs : List Int) (n : Nat) (t : TypeId) : Holds rn (w.alloc (.cells ((xs.map rn).toArray ++ Array.replicate n (.int .i32 0)) t)) w.heap.size 0 xs.toArray := by
  intro j hj
  have hj2 : j < xs.length := by simpa using hj
  have h1 : (xs.toArray)[j]! = xs[j] := by rw [getElem!_pos xs.toArray j hj]; simp
  rw [h1]
  have e : ((xs.map rn).toArray ++ Array.replicate n (.int .i32 0))[j]? = some (rn xs[j]) := by
    rw [Array.getElem?_append_left (by simpa using hj2)]
    simp [hj2]
  constructor
  · rw [Nat.zero_add, World.cell?_alloc_mark, e]
  · rw [Nat.zero_add, World.frozen?_alloc_mark]
    simp

set_option maxRecDepth 20000 in
set_option maxHeartbeats 4000000 in
theorem iRoundOf_any (u : List UInt8) (w : World) (hn : u.length ≤ 1048576) :
    Calls Try.prog 22 #[.string (bs u)] w fun e w' => e = .returned (.string (bs (rndW u))) ∧ Below w.heap.size w w' := by
  have hsz := size_bs u
  cases hw : okW u
  · have HE := hide (rndW_not hw)
    go_enter Try.func22, Try.ntmps22
    go_wp2_with fail
    refine (iWordOk_any u _ hn).mono ?_
    rw [hw]
    rintro e w' ⟨rfl, b1⟩
    go_wp2
    go_ret
    rw [HE.out]
    exact ⟨rfl, b1⟩
  · have HE := hide (rndW_ok hw)
    have HW := hide hw
    go_enter Try.func22, Try.ntmps22
    go_wp2_with fail
    refine (iWordOk_any u _ hn).mono ?_
    rw [hw]
    rintro e w1 ⟨rfl, b1⟩
    clear hw
    have hr := runes_of (u := u) fun j hj => okW_ok HW.out hj
    have hz : (Conv.runesFrom (bs u) (bs u).size 0 #[]).size = u.length := by rw [hr]; simp [len_nums]
    have hcv : (convert 9 51 (.string (bs u))).run Try.prog w1 = _ := run_runes_of_string w1 9 51 21 (bs u) Try.underlying9 Try.underlying51 Try.underlying21 (by omega)
    rw [hz, hr] at hcv
    obtain ⟨cp, hcp⟩ : ∃ c, c = grownCap w1 u.length 0 21 := ⟨_, rfl⟩
    rw [← hcp] at hcv
    have hH := holds_new w1.drew (nums u) (cp - u.length) 21
    have hB := (Below.refl w1.heap.size w1).drew.alloc (Nat.le_refl w1.heap.size) (.cells (((nums u).map rn).toArray ++ Array.replicate (cp - u.length) (.int .i32 0)) 21)
    obtain ⟨W, hW⟩ : ∃ W, W = w1.drew.alloc (.cells (((nums u).map rn).toArray ++ Array.replicate (cp - u.length) (.int .i32 0)) 21) := ⟨_, rfl⟩
    rw [← hW] at hcv hH hB
    clear hW hcp hr hz
    have hl : (nums u).toArray.size = u.length := by simp [len_nums]
    go_wp2_with fail
    refine (show Calls _ _ #[.slice (some ⟨w1.heap.size, 0, none⟩) u.length cp] W _ from (by have := turned_any w1.heap.size 0 cp (nums u).toArray W hH (by omega); rw [hl] at this; exact this)).mono ?_
    rintro e w2 ⟨rfl, n, hw2⟩
    have hH2 : Holds rn w2 w1.heap.size 0 (nums u).toArray.reverse := by
      rw [hw2]
      exact holds_putRow rn _ w1.heap.size 0 _ _ (holds_ahead rn W n w1.heap.size 0 _ hH) (by simp)
    have hB2 : Below w1.heap.size W w2 := by
      rw [hw2]
      exact ⟨rfl, rfl, rfl, by simp, fun k hk => by simp [putRow, mapBlock, Sort.ahead, Array.getElem?_modify, show ¬ w1.heap.size = k by omega]⟩
    have hl2 : u.length ≤ (nums u).toArray.reverse.toList.length := by simp [len_nums]
    have hst : (convert 51 9 (.slice (some ⟨w1.heap.size, 0, none⟩) u.length cp)).run Try.prog w2 = .ok (.string (bs u.reverse)) w2 := by
      rw [run_convert_runes w2 51 9 21 ⟨w1.heap.size, 0, none⟩ u.length cp (nums u).toArray.reverse.toList hl2 Try.underlying51 Try.underlying21 Try.underlying9 (fun j hj => cell_of_holds hH2 j hj)]
      have e1 : (nums u).toArray.reverse.toList.take u.length = nums u.reverse := by
        rw [List.take_of_length_le (by simp [len_nums])]
        simp [nums]
      rw [e1, bytes_ok fun c hc => (okW_iff.1 HW.out).1 c (by simpa using hc)]
    clear hw2 hH hH2 hcv
    go_wp2
    go_ret
    rw [HE.out]
    exact ⟨rfl, b1.trans ((hB.trans hB2).mono b1.size)⟩

set_option maxHeartbeats 2000000 in
theorem iTailOf_any (u : List UInt8) (w : World) (hn : u.length ≤ 1048576) :
    Calls Try.prog 29 #[.string (bs u)] w fun e w' => e = .returned (.tuple #[.string (bs (llW u)), .string (bs (tlW u)), .bool (okW u)]) ∧ Below w.heap.size w w' := by
  cases hw : okW u
  · have HE := hide (llW_not hw)
    have HL := hide (tlW_not hw)
    go_enter Try.func29, Try.ntmps29
    go_wp2_with fail
    refine (iRoundOf_any u _ hn).mono ?_
    rw [rndW_not hw]
    rintro e w1 ⟨rfl, b1⟩
    go_wp2_with fail
    refine (iHeadOf_any [] _ (by simp)).mono ?_
    rw [show okW [] = false from rfl, hdW_not rfl, hlW_not rfl]
    rintro e w2 ⟨rfl, b2⟩
    go_wp2_with fail
    refine (iRoundOf_any [] _ (by simp)).mono ?_
    rw [rndW_not rfl]
    rintro e w3 ⟨rfl, b3⟩
    go_wp2
    refine bodyPost_ret (results_tmp3 rfl _ _ _) rfl ?_
    rw [HE.out, HL.out]
    have b12 := b1.trans (b2.mono b1.size)
    exact ⟨rfl, b12.trans (b3.mono b12.size)⟩
  · have HE := hide (llW_ok hw)
    have HL := hide (tlW_ok hw)
    have HT := hide (rnd_hd hw)
    have hr : okW u.reverse = true := by rw [okW_rev]; exact hw
    have hl : (hd u.reverse).length ≤ 1048576 := by have := hd_lt (okW_ne hr); rw [List.length_reverse] at this; omega
    go_enter Try.func29, Try.ntmps29
    go_wp2_with fail
    refine (iRoundOf_any u _ hn).mono ?_
    rw [rndW_ok hw]
    rintro e w1 ⟨rfl, b1⟩
    go_wp2_with fail
    refine (iHeadOf_any u.reverse _ (by rw [List.length_reverse]; exact hn)).mono ?_
    rw [hr, hdW_ok hr, hlW_ok hr]
    rintro e w2 ⟨rfl, b2⟩
    clear hw hr
    go_wp2_with fail
    refine (iRoundOf_any (hd u.reverse) _ hl).mono ?_
    rw [HT.out]
    rintro e w3 ⟨rfl, b3⟩
    go_wp2
    refine bodyPost_ret (results_tmp3 rfl _ _ _) rfl ?_
    rw [HE.out, HL.out]
    have b12 := b1.trans (b2.mono b1.size)
    exact ⟨rfl, b12.trans (b3.mono b12.size)⟩
end Go.Proofs.Ytjpdfkmlcjkcmaa
