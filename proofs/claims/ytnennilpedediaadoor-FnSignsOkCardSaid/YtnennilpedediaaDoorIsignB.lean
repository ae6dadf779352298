
/- Rows of signs of the landed code: read from texts, written as texts; SignsOk, ThenOf, SupportOf. -/
import Derived.Test.YtnennilpedediaaDoorIsignA
import Derived.Test.YtnennilpedediaaDoorIsignR
import Derived.Test.YtnennilpedediaaDoorIsignT
import Derived.Test.YtnennilpedediaaDoorIword
import Derived.Test.YtnennilpedediaaDoorPureX
namespace Go.Proofs.YtnennilpedediaaDoor
open Go.RowKit Go.Lib
set_option linter.unusedVariables false
set_option linter.unusedSimpArgs false

/-- The sign of a number. -/
def sgl (n : Nat) : UInt8 := if n = 0 then 48 else if n = 1 then 43 else 45
/-- The text of the first k signs. -/
def txU (U : Nat → Nat) (k : Nat) : List UInt8 := (List.range k).map fun i => sgl (U i)
theorem txU_succ (U : Nat → Nat) (k : Nat) : txU U (k + 1) = txU U k ++ [sgl (U k)] := by unfold txU; rw [List.range_succ, List.map_append]; rfl
theorem len_txU (U : Nat → Nat) (k : Nat) : (txU U k).length = k := by simp [txU]
theorem idx_sgl {n : Nat} (h : n < 3) (w : World) : (Instr.index 9 (.string ⟨#[48, 43, 45]⟩) (.int .i64 n)).run Tryd.prog w = .ok (.int .u8 (((sgl n).toNat : Nat) : Int)) w := by
  rw [run_index_string w 9 _ _ _ Tryd.underlying9]
  obtain rfl | rfl | rfl : n = 0 ∨ n = 1 ∨ n = 2 := by omega
  all_goals rfl
/-- The numbers of the first k signs of a text, zeros behind them. -/
def dgK (s : List UInt8) (k i : Nat) : Nat := if i < k then dg (lt s i) else 0
theorem dgK_lt (s : List UInt8) (k i : Nat) : dgK s k i < 3 := by
  unfold dgK
  split
  · exact dg_lt _
  · omega
theorem dgK_put (s : List UInt8) (k i : Nat) : put6 (dgK s k) k (dg (lt s k)) i = dgK s (k + 1) i := by
  unfold put6 dgK
  by_cases h : i = k
  · subst h; simp
  · have : i < k + 1 ↔ i < k := by omega
    simp only [this, if_neg h]
theorem dg_zero {c : UInt8} (h : okS c = true) : dg c = 0 ↔ c = 48 := by
  rcases okS_iff.1 h with rfl | rfl | rfl <;> decide
theorem sgl_dg {c : UInt8} (h : okS c = true) : sgl (dg c) = c := by
  rcases okS_iff.1 h with rfl | rfl | rfl <;> decide
theorem dgK_at {s : List UInt8} {i : Nat} (h : i < s.length) : dgK s s.length i = dg (lt s i) := by unfold dgK; rw [if_pos h]
theorem text_then {s t : List UInt8} (hs : okG s = true) (ht : okG t = true) (hl : s.length = t.length) : txU (thD (dgK s s.length) (dgK t t.length)) s.length = thL s t := by
  refine ext_lt (by rw [len_txU, len_thL hl]) fun i hi => ?_
  rw [len_txU] at hi
  rw [lt_thL hl hi]
  have e : lt (txU (thD (dgK s s.length) (dgK t t.length)) s.length) i = sgl (thD (dgK s s.length) (dgK t t.length) i) := by simp [lt, txU, hi]
  rw [e]
  unfold thD sg2
  rw [dgK_at hi, dgK_at (by omega)]
  by_cases h0 : lt s i = 48
  · rw [if_pos ((dg_zero (okG_ok hs hi)).2 h0), if_pos h0, sgl_dg (okG_ok ht (by omega))]
  · rw [if_neg (fun e => h0 ((dg_zero (okG_ok hs hi)).1 e)), if_neg h0, sgl_dg (okG_ok hs hi)]
/-- Where the first k places have signs. -/
def spU (U : Nat → Nat) : Nat → Nat
  | 0 => 0
  | k + 1 => spU U k ||| (if U k = 0 then 0 else 2 ^ k)
theorem spU_lt (U : Nat → Nat) : ∀ k, spU U k < 2 ^ k
  | 0 => by simp [spU]
  | k + 1 => by
    rw [spU]
    have h := spU_lt U k
    have e : 2 ^ (k + 1) = 2 ^ k * 2 := rfl
    refine Nat.or_lt_two_pow (by omega) ?_
    split
    · exact Nat.two_pow_pos _
    · exact Nat.pow_lt_pow_right (by omega) (by omega)
theorem spU_low {s : List UInt8} (hs : okG s = true) : ∀ k, k ≤ s.length → spU (dgK s s.length) k = spK s k
  | 0, _ => rfl
  | k + 1, h => by
    rw [spU, spK, spU_low hs k (by omega), dgK_at (by omega)]
    by_cases h0 : lt s k = 48
    · rw [if_pos ((dg_zero (okG_ok hs (by omega))).2 h0), if_pos h0]
    · rw [if_neg (fun e => h0 ((dg_zero (okG_ok hs (by omega))).1 e)), if_neg h0]
theorem spU_high {s : List UInt8} (hs : okG s = true) : ∀ k, spU (dgK s s.length) (s.length + k) = spK s s.length
  | 0 => spU_low hs _ (Nat.le_refl _)
  | k + 1 => by
    rw [show s.length + (k + 1) = (s.length + k) + 1 from rfl, spU, spU_high hs k]
    have : dgK s s.length (s.length + k) = 0 := by unfold dgK; rw [if_neg (by omega)]
    rw [if_pos this, Nat.or_zero]
theorem spU_six {s : List UInt8} (hs : okG s = true) : spU (dgK s s.length) 6 = spK s s.length := by
  have h6 := (okG_iff.1 hs).2.2
  have := spU_high hs (6 - s.length)
  rwa [show s.length + (6 - s.length) = 6 by omega] at this
theorem step_sign {u : List UInt8} {k : Nat} (hlt : k < u.length) (h : okS (lt u k) = true) : Utf8.decode (bs u) k = ((lt u k).toNat, 1) := by
  have hk : k < (bs u).size := by rw [size_bs]; exact hlt
  have h9 : (lt u k).toNat < 128 := by
    rcases okS_iff.1 h with h | h | h <;> rw [h] <;> decide
  rw [decode_ascii (bs u) k hk (by rw [get_bs hk]; exact h9), get_bs hk]

set_option maxHeartbeats 1000000 in
theorem iSignsOk_any (u : List UInt8) (w : World) (hn : u.length ≤ 1048576) :
    Calls Tryd.prog 10 #[.string (bs u)] w fun e w' => e = .returned (.bool (okG u)) ∧ Below w.heap.size w w' := by
  have hsz := size_bs u
  by_cases h1 : 1 ≤ u.length
  · by_cases h6 : u.length ≤ 6
    · have HE := hide (show okG u = u.all okS from by unfold okG; rw [decide_eq_true h1, decide_eq_true h6]; simp)
      have h1i : ((u.length : Nat) : Int) ≥ 1 := by omega
      have h6i : ((u.length : Nat) : Int) ≤ 6 := by omega
      cases hc : u.all okS
      · have hq : (bs (Lib.trimS u [48, 43, 45])).toList.isEmpty = false := by
          have := trim_other u hc
          rw [toList_bs]
          cases h : Lib.trimS u [48, 43, 45] with
          | nil => exact absurd h this
          | cons a t => rfl
        go_enter Tryd.func10, Tryd.ntmps10
        go_wp2_with fail
        refine (iTrim_any u _ hn).mono ?_
        generalize bs (Lib.trimS u [48, 43, 45]) = V at hq ⊢
        rintro e w1 ⟨rfl, b1⟩
        go_wp2
        go_ret
        exact ⟨ret_bool (by first | rw [HE.out, hc] | (rw [HE.out, hc]; exact hq) | simp [HE.out, hc, hq]), b1⟩
      · have hq : (bs (Lib.trimS u [48, 43, 45])).toList.isEmpty = true := by rw [toList_bs, trim_signs u hc]; rfl
        go_enter Tryd.func10, Tryd.ntmps10
        go_wp2_with fail
        refine (iTrim_any u _ hn).mono ?_
        generalize bs (Lib.trimS u [48, 43, 45]) = V at hq ⊢
        rintro e w1 ⟨rfl, b1⟩
        go_wp2
        go_ret
        exact ⟨ret_bool (by first | rw [HE.out, hc] | (rw [HE.out, hc]; exact hq) | simp [HE.out, hc, hq]), b1⟩
    · have HE := hide (show okG u = false from by unfold okG; rw [decide_eq_false h6]; simp)
      have h1i : ((u.length : Nat) : Int) ≥ 1 := by omega
      have h6i : ¬ ((u.length : Nat) : Int) ≤ 6 := by omega
      go_enter Tryd.func10, Tryd.ntmps10
      go_wp2
      go_ret
      exact ⟨ret_bool HE.out.symm, Below.refl _ _⟩
  · have HE := hide (show okG u = false from by unfold okG; rw [decide_eq_false h1]; simp)
    have h1i : ¬ ((u.length : Nat) : Int) ≥ 1 := by omega
    go_enter Tryd.func10, Tryd.ntmps10
    go_wp2
    go_ret
    exact ⟨ret_bool HE.out.symm, Below.refl _ _⟩

set_option maxRecDepth 20000 in
set_option maxHeartbeats 4000000 in
theorem support_any (U : Nat → Nat) (w : World) :
    Calls Tryd.prog 29 #[.agg #[.int .i64 ((U 0 : Nat) : Int), .int .i64 ((U 1 : Nat) : Int), .int .i64 ((U 2 : Nat) : Int), .int .i64 ((U 3 : Nat) : Int), .int .i64 ((U 4 : Nat) : Int), .int .i64 ((U 5 : Nat) : Int)]] w fun e w' => e = .returned (.int .i64 ((spU U 6 : Nat) : Int)) ∧ Below w.heap.size w w' := by
  go_enter Tryd.func29, Tryd.ntmps29
  go_wp2
  go_loopg [7, 3] 6 (fun g c v wr => ∃ k : Nat, k ≤ 6 ∧ Hid (g = 6 - k) ∧ c = .int .i64 k ∧ v = .int .i64 ((spU U k : Nat) : Int) ∧ Below w.heap.size w wr)
  case atStart => exact ⟨0, by omega, rfl, rfl, rfl, (Below.refl _ w).alloc (Nat.le_refl _) _⟩
  case round =>
    obtain ⟨k, hk, hg, rfl, rfl, hB⟩ := hrel
    by_cases hlt : k < 6
    · have hki : (k : Int) < 6 := by omega
      obtain ⟨p0, p1⟩ := pow_int (show k ≤ 9 by omega)
      have hl6 : spU U k < 1024 := Nat.lt_of_lt_of_le (spU_lt U k) (Nat.le_trans (Nat.pow_le_pow_right (n := 2) (by omega) (show k ≤ 10 by omega)) (by decide))
      by_cases he : U k = 0
      · have hix : ∀ w, (Instr.index 41 (.agg #[.int .i64 ((U 0 : Nat) : Int), .int .i64 ((U 1 : Nat) : Int), .int .i64 ((U 2 : Nat) : Int), .int .i64 ((U 3 : Nat) : Int), .int .i64 ((U 4 : Nat) : Int), .int .i64 ((U 5 : Nat) : Int)]) (.int .i64 k)).run Tryd.prog w = .ok (.int .i64 0) w := fun w => (idx_six U k hlt w).trans (by rw [he]; rfl)
        have HK := hide (show spU U (k + 1) = spU U k from by rw [spU, if_pos he, Nat.or_zero])
        clear he
        go_wp2
        go_roundg (6 - (k + 1))
        case measure => go_light; have := hg.out; omega
        case rel => go_light; exact ⟨k + 1, by omega, rfl, by go_num, by rw [HK.out], hB⟩
      · have heb : ((((U k : Nat) : Int)) == 0) = false := beq_eq_false_iff_ne.2 (by omega)
        have heb2 : ((((U k : Nat) : Int)) != 0) = true := by rw [bne, heb]; rfl
        have hix : ∀ w, (Instr.index 41 (.agg #[.int .i64 ((U 0 : Nat) : Int), .int .i64 ((U 1 : Nat) : Int), .int .i64 ((U 2 : Nat) : Int), .int .i64 ((U 3 : Nat) : Int), .int .i64 ((U 4 : Nat) : Int), .int .i64 ((U 5 : Nat) : Int)]) (.int .i64 k)).run Tryd.prog w = .ok (.int .i64 ((U k : Nat) : Int)) w := fun w => idx_six U k hlt w
        have HK := hide (show spU U (k + 1) = spU U k ||| 2 ^ k from by rw [spU, if_neg he])
        have hor := or_pow hl6 (show k ≤ 9 by omega)
        clear he
        go_wp2
        go_roundg (6 - (k + 1))
        case measure => go_light; have := hg.out; omega
        case rel => go_light; exact ⟨k + 1, by omega, rfl, by go_num, by rw [HK.out], hB⟩
    · obtain rfl : k = 6 := by omega
      go_wp2
      go_ret
      exact ⟨rfl, hB⟩

set_option maxRecDepth 20000 in
set_option maxHeartbeats 4000000 in
theorem text_any (U : Nat → Nat) (n : Nat) (w : World) (hU : ∀ i, U i < 3) (h1 : 1 ≤ n) (h6 : n ≤ 6) :
    Calls Tryd.prog 28 #[.agg #[.int .i64 ((U 0 : Nat) : Int), .int .i64 ((U 1 : Nat) : Int), .int .i64 ((U 2 : Nat) : Int), .int .i64 ((U 3 : Nat) : Int), .int .i64 ((U 4 : Nat) : Int), .int .i64 ((U 5 : Nat) : Int)], .int .i64 n] w fun e w' => e = .returned (.string (bs (txU U n))) ∧ Below w.heap.size w w' := by
  have h6i : (n : Int) ≤ 6 := by omega
  go_enter Tryd.func28, Tryd.ntmps28
  go_wp2
  go_loopg [11, 5] n (fun g i v wr => ∃ k : Nat, k ≤ n ∧ Hid (g = n - k) ∧ i = .int .i64 k ∧ AByt (w.heap.size + 1) wr v (txU U k) ∧ SgC wr w.heap.size U ∧ Below w.heap.size w wr)
  case atStart => exact ⟨0, Nat.zero_le _, rfl, rfl, AByt.nil_ _ _, sg_new w U, (Below.refl _ w).alloc (Nat.le_refl _) _⟩
  case round =>
    obtain ⟨k, hk, hg, rfl, hA, hF, hB⟩ := hrel
    have hB0 := hB.size
    have hF0 := hF.lt
    by_cases hlt : k < n
    · have hca := hF.cell (show k < 6 by omega)
      have hfa := hF.frozen k
      have hix := fun w => idx_sgl (hU k) w
      have hl : (txU U k).length ≤ 1048576 := by rw [len_txU]; omega
      have HS := hide (txU_succ U k)
      go_wp2_with (at_builtin; refine wp_app_AByt rfl (.tmp 15) (.tmp 18) rfl (w.heap.size + 1) _ _ _ _ rfl rfl hA hl (by omega) ?_; intro v1 w1 hown1 hg1)
      have hb2 := hA.belowOf hg1 (Nat.le_refl (w.heap.size + 1)) (by omega)
      go_roundg (n - (k + 1))
      case measure => go_light; have := hg.out; omega
      case rel => go_light; exact ⟨k + 1, hlt, rfl, by go_num, by rw [HS.out]; exact hown1, hF.below hb2 (by omega), hB.trans (hb2.mono (by omega))⟩
    · obtain rfl : n = k := by omega
      have ht := hA.text (by rw [len_txU]; omega)
      go_wp2
      go_ret
      exact ⟨rfl, hB⟩

set_option maxRecDepth 20000 in
set_option maxHeartbeats 4000000 in
theorem signsIn_any (u : List UInt8) (w : World) (hw : okG u = true) :
    Calls Tryd.prog 26 #[.string (bs u)] w fun e w' => e = .returned (.agg #[.int .i64 ((dgK u u.length 0 : Nat) : Int), .int .i64 ((dgK u u.length 1 : Nat) : Int), .int .i64 ((dgK u u.length 2 : Nat) : Int), .int .i64 ((dgK u u.length 3 : Nat) : Int), .int .i64 ((dgK u u.length 4 : Nat) : Int), .int .i64 ((dgK u u.length 5 : Nat) : Int)]) ∧ Below w.heap.size w w' := by
  have hsz := size_bs u
  have hln : u.length ≤ 6 := (okG_iff.1 hw).2.2
  have hok := hide hw
  clear hw
  go_enter Tryd.func26, Tryd.ntmps26
  go_wp2
  go_loopg [] u.length (fun g wr => ∃ (k : Nat), k ≤ u.length ∧ Hid (g = u.length - k) ∧ SgC wr (w.heap.size + 1) (dgK u k) ∧ SgC wr w.heap.size (fun _ => 0) ∧ wr.heap[w.heap.size + 2]? = some (.stringIter (bs u) k) ∧ Below w.heap.size w wr)
  case atStart =>
    have r0 := sg_zero w
    have b0 := (Below.refl w.heap.size w).alloc (Nat.le_refl _) (.cells #[.int .i64 0, .int .i64 0, .int .i64 0, .int .i64 0, .int .i64 0, .int .i64 0] 41)
    have s0 : (w.alloc (.cells #[.int .i64 0, .int .i64 0, .int .i64 0, .int .i64 0, .int .i64 0, .int .i64 0] 41)).heap.size = w.heap.size + 1 := by simp
    generalize w.alloc (.cells #[.int .i64 0, .int .i64 0, .int .i64 0, .int .i64 0, .int .i64 0, .int .i64 0] 41) = w0 at r0 b0 s0 ⊢
    have r1 := sg_zero w0
    have b1 := b0.alloc (by omega) (.cells #[.int .i64 0, .int .i64 0, .int .i64 0, .int .i64 0, .int .i64 0, .int .i64 0] 41)
    have r0' : SgC _ _ _ := World.rowIs.alloc r0 (.cells #[.int .i64 0, .int .i64 0, .int .i64 0, .int .i64 0, .int .i64 0, .int .i64 0] 41)
    have s1 : (w0.alloc (.cells #[.int .i64 0, .int .i64 0, .int .i64 0, .int .i64 0, .int .i64 0, .int .i64 0] 41)).heap.size = w.heap.size + 2 := by simp; omega
    rw [s0] at r1
    generalize w0.alloc (.cells #[.int .i64 0, .int .i64 0, .int .i64 0, .int .i64 0, .int .i64 0, .int .i64 0] 41) = w1 at r0' r1 b1 s1 ⊢
    refine ⟨0, Nat.zero_le _, rfl, SgC.congr (World.rowIs.alloc r1 _) fun i _ => by unfold dgK; rw [if_neg (Nat.not_lt_zero _)], World.rowIs.alloc r0' _, ?_, b1.alloc (by omega) _⟩
    rw [← s1]
    exact World.iter_heap _ _ _
  case round =>
    obtain ⟨k, hk, hg, hR, hZ, hI, hB⟩ := hrel
    by_cases hlt : k < u.length
    · have hp : k < (bs u).size := by omega
      have hki : (k : Int) < 6 := by omega
      have hc1 := okG_ok hok.out hlt
      have hst := step_sign hlt hc1
      have hnx : ∀ ty, (Instr.next (.pointer (some ⟨w.heap.size + 2, 0, none⟩)) true ty).run Tryd.prog wr = .ok (.tuple #[.bool true, .int .i64 k, .int .i32 (((lt u k).toNat : Nat) : Int)]) (wr.iterAt (w.heap.size + 2) (bs u) (k + 1)) := fun ty => by
        rw [Lib.run_next_any_at wr (w.heap.size + 2) (bs u) k ty hI hp, hst]
      have hI1 := Lib.iterAt_heap wr (w.heap.size + 2) (bs u) k (k + 1) hI
      have hR1 : SgC _ _ _ := World.rowIs.of_block hR (Lib.iterAt_other wr (w.heap.size + 2) (w.heap.size + 1) (bs u) (k + 1) (by omega))
      have hZ1 : SgC _ _ _ := World.rowIs.of_block hZ (Lib.iterAt_other wr (w.heap.size + 2) w.heap.size (bs u) (k + 1) (by omega))
      have hB1 := Lib.below_iterAt hB (show w.heap.size ≤ w.heap.size + 2 by omega) (bs u) (k + 1)
      generalize wr.iterAt (w.heap.size + 2) (bs u) (k + 1) = W at hnx hI1 hR1 hZ1 hB1
      clear hst hR hZ hI hB
      have hc0 := hR1.cell (show k < 6 by omega)
      have hf0 := hR1.frozen k
      have Y1 := hide ((hR1.put k (dg (lt u k))).congr fun i _ => dgK_put u k i)
      have Y2 := hide (hZ1.other (b := w.heap.size + 1) (k := k) (v := .int .i64 ((dg (lt u k) : Nat) : Int)) (by omega))
      have Y3 := hide (iter_kept (j := w.heap.size + 1) (i := k) (v := .int .i64 ((dg (lt u k) : Nat) : Int)) hI1 (by omega))
      have Y4 := hide (hB1.setCell (p := ⟨w.heap.size + 1, k, none⟩) (by show w.heap.size ≤ w.heap.size + 1; omega) (.int .i64 ((dg (lt u k) : Nat) : Int)))
      have HC := hide (fun w => iIndex_any (lt u k) w hc1)
      clear hR1 hZ1 hI1 hB1 hc1
      generalize dg (lt u k) = D at *
      go_wp2_with fail
      refine (HC.out _).mono ?_
      rintro e w1 ⟨rfl, rfl⟩
      go_wp2
      go_roundg (u.length - (k + 1))
      case measure => go_light; have := hg.out; omega
      case rel => go_light; exact ⟨k + 1, hlt, rfl, Y1.out, Y2.out, Y3.out, Y4.out⟩
    · obtain rfl : u.length = k := by omega
      have hnx : ∀ ty, (Instr.next (.pointer (some ⟨w.heap.size + 2, 0, none⟩)) true ty).run Tryd.prog wr = _ := fun ty => Lib.run_next_end_at wr (w.heap.size + 2) (bs u) u.length ty hI (by omega)
      have hF := hR
      clear hI hR
      have hc0 := World.rowIs.cell hF (i := 0) (by omega)
      have hz0 := World.rowIs.cell hZ (i := 0) (by omega)
      have hf0 : wr.frozen? ⟨w.heap.size, 0, none⟩ = false := World.rowIs.frozen hZ 0
      have hc1 := World.rowIs.cell hF (i := 1) (by omega)
      have hz1 := World.rowIs.cell hZ (i := 1) (by omega)
      have hf1 : wr.frozen? ⟨w.heap.size, 1, none⟩ = false := World.rowIs.frozen hZ 1
      have hc2 := World.rowIs.cell hF (i := 2) (by omega)
      have hz2 := World.rowIs.cell hZ (i := 2) (by omega)
      have hf2 : wr.frozen? ⟨w.heap.size, 2, none⟩ = false := World.rowIs.frozen hZ 2
      have hc3 := World.rowIs.cell hF (i := 3) (by omega)
      have hz3 := World.rowIs.cell hZ (i := 3) (by omega)
      have hf3 : wr.frozen? ⟨w.heap.size, 3, none⟩ = false := World.rowIs.frozen hZ 3
      have hc4 := World.rowIs.cell hF (i := 4) (by omega)
      have hz4 := World.rowIs.cell hZ (i := 4) (by omega)
      have hf4 : wr.frozen? ⟨w.heap.size, 4, none⟩ = false := World.rowIs.frozen hZ 4
      have hc5 := World.rowIs.cell hF (i := 5) (by omega)
      have hz5 := World.rowIs.cell hZ (i := 5) (by omega)
      have hf5 : wr.frozen? ⟨w.heap.size, 5, none⟩ = false := World.rowIs.frozen hZ 5
      have hR := ((((((hZ.put 0 (dgK u u.length 0)).put 1 (dgK u u.length 1)).put 2 (dgK u u.length 2)).put 3 (dgK u u.length 3)).put 4 (dgK u u.length 4)).put 5 (dgK u u.length 5)).congr (V := dgK u u.length) fun i hi => by
        match i, hi with
        | 0, _ | 1, _ | 2, _ | 3, _ | 4, _ | 5, _ => rfl
      have hB9 := ((((((hB.setCell (p := ⟨w.heap.size, 0, none⟩) (by show w.heap.size ≤ w.heap.size; omega) (.int .i64 ((dgK u u.length 0 : Nat) : Int))).setCell (p := ⟨w.heap.size, 1, none⟩) (by show w.heap.size ≤ w.heap.size; omega) (.int .i64 ((dgK u u.length 1 : Nat) : Int))).setCell (p := ⟨w.heap.size, 2, none⟩) (by show w.heap.size ≤ w.heap.size; omega) (.int .i64 ((dgK u u.length 2 : Nat) : Int))).setCell (p := ⟨w.heap.size, 3, none⟩) (by show w.heap.size ≤ w.heap.size; omega) (.int .i64 ((dgK u u.length 3 : Nat) : Int))).setCell (p := ⟨w.heap.size, 4, none⟩) (by show w.heap.size ≤ w.heap.size; omega) (.int .i64 ((dgK u u.length 4 : Nat) : Int))).setCell (p := ⟨w.heap.size, 5, none⟩) (by show w.heap.size ≤ w.heap.size; omega) (.int .i64 ((dgK u u.length 5 : Nat) : Int)))
      replace hB9 := hide hB9
      replace hR := hide hR
      clear hF hZ hB
      go_wp2
      exact bodyPost_ret (res_sg rfl _ _ _ _ hR.out rfl) rfl ⟨rfl, hB9.out⟩

set_option maxRecDepth 20000 in
set_option maxHeartbeats 4000000 in
theorem iThenOf_any (s t : List UInt8) (w : World) (hn : s.length ≤ 1048576) (hm : t.length ≤ 1048576) :
    Calls Tryd.prog 14 #[.string (bs s), .string (bs t)] w fun e w' => e = .returned (.string (bs (thW s t))) ∧ Below w.heap.size w w' := by
  have hsz := size_bs s
  have htz := size_bs t
  cases h1 : okG s
  · have HE := hide (thW_not (s := s) (t := t) (by unfold canT; rw [h1]; rfl))
    go_enter Tryd.func14, Tryd.ntmps14
    go_wp2_with fail
    refine (iSignsOk_any s _ hn).mono ?_
    rw [h1]
    rintro e w1 ⟨rfl, b1⟩
    go_wp2
    go_ret
    rw [HE.out]
    exact ⟨rfl, b1⟩
  · cases h2 : okG t
    · have HE := hide (thW_not (s := s) (t := t) (by unfold canT; rw [h1, h2]; rfl))
      go_enter Tryd.func14, Tryd.ntmps14
      go_wp2_with fail
      refine (iSignsOk_any s _ hn).mono ?_
      rw [h1]
      rintro e w1 ⟨rfl, b1⟩
      have z1 := b1.size
      go_wp2_with fail
      refine (iSignsOk_any t _ hm).mono ?_
      rw [h2]
      rintro e w2 ⟨rfl, b2⟩
      go_wp2
      go_ret
      rw [HE.out]
      exact ⟨rfl, b1.trans (b2.mono z1)⟩
    · by_cases hl : s.length = t.length
      · have HE := hide (thW_ok (canT_iff.2 ⟨h1, h2, hl⟩))
        have HT := hide (text_then h1 h2 hl)
        have hnb : (((s.length : Nat) : Int) == ((t.length : Nat) : Int)) = true := beq_iff_eq.2 (by omega)
        have hnb2 : (((s.length : Nat) : Int) != ((t.length : Nat) : Int)) = false := by rw [bne, hnb]; rfl
        have H1 := hide h1
        have H2 := hide h2
        have hln := (okG_iff.1 h1).2
        go_enter Tryd.func14, Tryd.ntmps14
        go_wp2_with fail
        refine (iSignsOk_any s _ hn).mono ?_
        rw [h1]
        rintro e w1 ⟨rfl, b1⟩
        have z1 := b1.size
        go_wp2_with fail
        refine (iSignsOk_any t _ hm).mono ?_
        rw [h2]
        rintro e w2 ⟨rfl, b2⟩
        have B2 := b1.trans (b2.mono z1)
        have z2 := B2.size
        clear b1 b2 h1 h2 z1 hl
        go_wp2_with fail
        refine (signsIn_any s _ H1.out).mono ?_
        rintro e w3 ⟨rfl, b3⟩
        have B3 := B2.trans (b3.mono z2)
        have z3 := B3.size
        clear B2 b3 z2
        go_wp2_with fail
        refine (signsIn_any t _ H2.out).mono ?_
        rintro e w4 ⟨rfl, b4⟩
        have B4 := B3.trans (b4.mono z3)
        have z4 := B4.size
        clear B3 b4 z3
        go_wp2_with fail
        refine (then_any (dgK s s.length) (dgK t t.length) _).mono ?_
        rintro e w5 ⟨rfl, b5⟩
        have B5 := B4.trans (b5.mono z4)
        have z5 := B5.size
        clear B4 b5 z4
        go_wp2_with fail
        refine (text_any (thD (dgK s s.length) (dgK t t.length)) s.length _ (fun i => by
          unfold thD
          split
          · exact dgK_lt _ _ _
          · exact dgK_lt _ _ _) hln.1 hln.2).mono ?_
        rw [HT.out]
        rintro e w6 ⟨rfl, b6⟩
        go_wp2
        go_ret
        rw [HE.out]
        exact ⟨rfl, B5.trans (b6.mono z5)⟩
      · have HE := hide (thW_not (s := s) (t := t) (by unfold canT; rw [h1, h2, decide_eq_false hl]; rfl))
        have hnb : (((s.length : Nat) : Int) == ((t.length : Nat) : Int)) = false := beq_eq_false_iff_ne.2 (by omega)
        have hnb2 : (((s.length : Nat) : Int) != ((t.length : Nat) : Int)) = true := by rw [bne, hnb]; rfl
        go_enter Tryd.func14, Tryd.ntmps14
        go_wp2_with fail
        refine (iSignsOk_any s _ hn).mono ?_
        rw [h1]
        rintro e w1 ⟨rfl, b1⟩
        have z1 := b1.size
        go_wp2_with fail
        refine (iSignsOk_any t _ hm).mono ?_
        rw [h2]
        rintro e w2 ⟨rfl, b2⟩
        go_wp2
        go_ret
        rw [HE.out]
        exact ⟨rfl, b1.trans (b2.mono z1)⟩

set_option maxRecDepth 20000 in
set_option maxHeartbeats 4000000 in
theorem iSupportOf_any (s : List UInt8) (w : World) (hn : s.length ≤ 1048576) :
    Calls Tryd.prog 16 #[.string (bs s)] w fun e w' => e = .returned (.int .i64 (spW s)) ∧ Below w.heap.size w w' := by
  have hsz := size_bs s
  cases h1 : okG s
  · have HE := hide (spW_not h1)
    go_enter Tryd.func16, Tryd.ntmps16
    go_wp2_with fail
    refine (iSignsOk_any s _ hn).mono ?_
    rw [h1]
    rintro e w1 ⟨rfl, b1⟩
    go_wp2
    go_ret
    exact ⟨ret_int HE.out.symm, b1⟩
  · have HE := hide ((spW_ok h1).trans (congrArg (fun n : Nat => (n : Int)) (spU_six h1).symm))
    have H1 := hide h1
    go_enter Tryd.func16, Tryd.ntmps16
    go_wp2_with fail
    refine (iSignsOk_any s _ hn).mono ?_
    rw [h1]
    rintro e w1 ⟨rfl, b1⟩
    have z1 := b1.size
    clear h1
    go_wp2_with fail
    refine (signsIn_any s _ H1.out).mono ?_
    rintro e w2 ⟨rfl, b2⟩
    have B2 := b1.trans (b2.mono z1)
    have z2 := B2.size
    clear b1 b2 z1
    go_wp2_with fail
    refine (support_any (dgK s s.length) _).mono ?_
    rintro e w3 ⟨rfl, b3⟩
    go_wp2
    go_ret
    exact ⟨ret_int HE.out.symm, B2.trans (b3.mono z2)⟩
end Go.Proofs.YtnennilpedediaaDoor
