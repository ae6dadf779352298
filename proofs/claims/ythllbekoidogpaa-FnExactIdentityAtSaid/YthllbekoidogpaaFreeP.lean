/-  -/
import Derived.Test.YthllbekoidogpaaSsame
import Derived.Test.YthllbekoidogpaaStrMark
import Derived.Test.YthllbekoidogpaaMadeS
import Derived.Test.YthllbekoidogpaaSvalue
namespace Go.Proofs.Ythllbekoidogpaa
set_option linter.unusedVariables false

/-- The letter of a bit. -/
def lx (i : Nat) : UInt8 := if i = 0 then 97 else if i = 1 then 98 else 99
/-- The words with one head, and the tails below k. -/
def rowW (h : List UInt8) (i j : Nat) (tails : List (List UInt8)) : Nat → List (List UInt8)
  | 0 => []
  | k + 1 => rowW h i j tails k ++ [h ++ [lx i] ++ [lx j] ++ sl tails k]
/-- The words with the heads below k, and all tails. -/
def blkW (heads tails : List (List UInt8)) (i j : Nat) : Nat → List (List UInt8)
  | 0 => []
  | k + 1 => blkW heads tails i j k ++ rowW (sl heads k) i j tails tails.length
/-- All heads and tails for two letters, if both are in the set. -/
def parW (g : Nat → List (List UInt8)) (s i j : Nat) : List (List UInt8) := if (s.testBit i && s.testBit j) = true then blkW (g (s - 2 ^ i)) (g (s - 2 ^ j)) i j (g (s - 2 ^ i)).length else []
def accY (g : Nat → List (List UInt8)) (s i : Nat) : Nat → List (List UInt8)
  | 0 => []
  | j + 1 => accY g s i j ++ parW g s i j
def accX (g : Nat → List (List UInt8)) (s : Nat) : Nat → List (List UInt8)
  | 0 => []
  | i + 1 => accX g s i ++ accY g s i 3
/-- All words of parts with just the letters of a set; f: how many letters at most. -/
def fullF : Nat → Nat → List (List UInt8)
  | 0, _ => []
  | f + 1, s => if s = 1 then [[97]] else if s = 2 then [[98]] else if s = 4 then [[99]] else accX (fullF f) s 3
/-- How many letters a set has. -/
def pc (s : Nat) : Nat := s % 2 + s / 2 % 2 + s / 4
theorem full_small : ∀ f, f < 4 → ∀ s, s < 8 → (fullF f s).length ≤ 144 ∧ ∀ u, u ∈ fullF f s → u.length ≤ 10 := by
  have h : ∀ f : Fin 4, ∀ s : Fin 8, (decide ((fullF f s).length ≤ 144) && (fullF f s).all fun u => decide (u.length ≤ 10)) = true := by decide +kernel
  intro f hf s hs
  have := h ⟨f, hf⟩ ⟨s, hs⟩
  simp only [Bool.and_eq_true, decide_eq_true_iff, List.all_eq_true] at this
  exact ⟨this.1, this.2⟩
theorem len_rowW (h : List UInt8) (i j : Nat) (tails : List (List UInt8)) : ∀ k, (rowW h i j tails k).length = k
  | 0 => rfl
  | k + 1 => by simp [rowW, len_rowW h i j tails k]
theorem len_blkW (heads tails : List (List UInt8)) (i j : Nat) : ∀ k, (blkW heads tails i j k).length = k * tails.length
  | 0 => by simp [blkW]
  | k + 1 => by rw [blkW, List.length_append, len_blkW heads tails i j k, len_rowW, Nat.succ_mul]
section
variable {g : Nat → List (List UInt8)} {s : Nat}
theorem len_parW (h : ∀ x, x < 8 → (g x).length ≤ 144) (hs : s < 8) (i j : Nat) : (parW g s i j).length ≤ 20736 := by
  unfold parW
  split
  · rw [len_blkW]
    exact Nat.mul_le_mul (h _ (Nat.lt_of_le_of_lt (Nat.sub_le _ _) hs)) (h _ (Nat.lt_of_le_of_lt (Nat.sub_le _ _) hs))
  · simp
theorem len_accY (h : ∀ x, x < 8 → (g x).length ≤ 144) (hs : s < 8) (i : Nat) : ∀ j, (accY g s i j).length ≤ j * 20736
  | 0 => by simp [accY]
  | j + 1 => by
    have := len_accY h hs i j
    have := len_parW h hs i j
    rw [accY, List.length_append]; omega
theorem len_accX (h : ∀ x, x < 8 → (g x).length ≤ 144) (hs : s < 8) : ∀ i, (accX g s i).length ≤ i * 62208
  | 0 => by simp [accX]
  | i + 1 => by
    have := len_accX h hs i
    have := len_accY h hs i 3
    rw [accX, List.length_append]; omega
end
theorem pc_sub {s i : Nat} (hs : s < 8) (hi : i < 3) (h : s.testBit i = true) (hn : s ≠ 1 ∧ s ≠ 2 ∧ s ≠ 4) : 1 ≤ s - 2 ^ i ∧ s - 2 ^ i < 8 ∧ pc (s - 2 ^ i) + 1 = pc s ∧ 2 ^ i ≤ s := by
  have hh : ∀ s : Fin 8, ∀ i : Fin 3, (s : Nat).testBit i = true → ((s : Nat) ≠ 1 ∧ (s : Nat) ≠ 2 ∧ (s : Nat) ≠ 4) → 1 ≤ (s : Nat) - 2 ^ (i : Nat) ∧ (s : Nat) - 2 ^ (i : Nat) < 8 ∧ pc ((s : Nat) - 2 ^ (i : Nat)) + 1 = pc s ∧ 2 ^ (i : Nat) ≤ (s : Nat) := by decide
  exact hh ⟨s, hs⟩ ⟨i, hi⟩ h hn
theorem and_bit {s i : Nat} (hs : s < 8) (hi : i < 3) : bits .and .i64 (s : Int) ((2 ^ i : Nat) : Int) = if s.testBit i = true then ((2 ^ i : Nat) : Int) else 0 := by
  have h := and_pow (s := s) (p := i) (by omega) (by omega)
  rw [show ((2 ^ i : Nat) : Int) = (2 : Int) ^ i by simp]
  exact h
end Go.Proofs.Ythllbekoidogpaa

namespace Go.Proofs.Ythllbekoidogpaa
set_option linter.unusedVariables false

/-- One text before another one, in the order of bytes. -/
def lsB (u v : List UInt8) : Bool := Go.Op.bytesLess u v
theorem lsB_cons (a b : UInt8) (x y : List UInt8) : lsB (a :: x) (b :: y) = (decide (a < b) || (a == b && lsB x y)) := rfl
theorem lsB_nil (u : List UInt8) : lsB u [] = false := by cases u <;> rfl
theorem lsB_nil_cons (b : UInt8) (y : List UInt8) : lsB [] (b :: y) = true := rfl
theorem lsB_irrefl : ∀ u : List UInt8, lsB u u = false
  | [] => rfl
  | a :: x => by
    rw [lsB_cons, lsB_irrefl x]
    simp
theorem lsB_asymm : ∀ {u v : List UInt8}, lsB u v = true → lsB v u = false
  | [], [], h => by cases h
  | [], b :: y, _ => lsB_nil _
  | a :: x, [], h => by rw [lsB_nil] at h; cases h
  | a :: x, b :: y, h => by
    rw [lsB_cons, Bool.or_eq_true, decide_eq_true_iff, Bool.and_eq_true, beq_iff_eq] at h
    rw [lsB_cons]
    rcases h with h | ⟨rfl, h⟩
    · have h1 : ¬ b < a := by rw [UInt8.lt_iff_toNat_lt] at h ⊢; omega
      have h2 : (b == a) = false := by rw [beq_eq_false_iff_ne]; rintro rfl; rw [UInt8.lt_iff_toNat_lt] at h; omega
      rw [h2]; simp [h1]
    · rw [lsB_asymm h]; simp
theorem lsB_tri : ∀ {u v : List UInt8}, lsB u v = false → lsB v u = false → u = v
  | [], [], _, _ => rfl
  | [], b :: y, h, _ => by cases h
  | a :: x, [], _, h => by cases h
  | a :: x, b :: y, h1, h2 => by
    rw [lsB_cons, Bool.or_eq_false_iff, decide_eq_false_iff_not] at h1 h2
    have e : a = b := by
      rw [← UInt8.toNat_inj]
      have := h1.1; have := h2.1
      rw [UInt8.lt_iff_toNat_lt] at *
      omega
    subst e
    have k1 := h1.2
    have k2 := h2.2
    rw [beq_self_eq_true, Bool.true_and] at k1 k2
    rw [lsB_tri k1 k2]
/-- At most: not after. -/
theorem leB_trans : ∀ {u v w : List UInt8}, lsB v u = false → lsB w v = false → lsB w u = false
  | [], v, w, _, _ => lsB_nil _
  | a :: x, [], w, h1, _ => by cases h1
  | a :: x, b :: y, [], _, h2 => by cases h2
  | a :: x, b :: y, c :: z, h1, h2 => by
    rw [lsB_cons, Bool.or_eq_false_iff, decide_eq_false_iff_not, UInt8.lt_iff_toNat_lt] at h1 h2 ⊢
    refine ⟨by omega, ?_⟩
    cases e : c == a with
    | false => rfl
    | true =>
      have ec : c = a := by simpa using e
      subst ec
      have eb : b = c := by rw [← UInt8.toNat_inj]; omega
      subst eb
      have k1 := h1.2
      have k2 := h2.2
      rw [beq_self_eq_true, Bool.true_and] at k1 k2
      rw [Bool.true_and]
      exact leB_trans k1 k2

/-- Two neighbours are exchanged. -/
def swp (L : List (List UInt8)) (j : Nat) : List (List UInt8) := (L.set (j + 1) (sl L j)).set j (sl L (j + 1))
/-- The thing at a place goes down as long as it is before the one below it. -/
def inn (L : List (List UInt8)) : Nat → List (List UInt8)
  | 0 => L
  | j + 1 => if lsB (sl L (j + 1)) (sl L j) = true then inn (swp L j) j else L
/-- The first k things in order. -/
def srtK (L : List (List UInt8)) : Nat → List (List UInt8)
  | 0 => L
  | k + 1 => inn (srtK L k) k
def srt (L : List (List UInt8)) : List (List UInt8) := srtK L L.length
section
variable {L : List (List UInt8)}
theorem len_swp (j : Nat) : (swp L j).length = L.length := by simp [swp]
theorem swp_perm {j : Nat} (h : j + 1 < L.length) : (swp L j).Perm L := by
  have h0 : j < L.length := by omega
  have := List.set_set_perm h h0
  unfold swp
  rw [sl_at h0, sl_at h]
  exact this
theorem sl_set {j i : Nat} {z : List UInt8} (hj : j < L.length) : sl (L.set j z) i = if i = j then z else sl L i := by
  unfold sl
  rw [List.getD_eq_getElem?_getD, List.getElem?_set, List.getD_eq_getElem?_getD]
  by_cases e : j = i
  · subst e; simp [hj]
  · rw [if_neg e, if_neg (fun h => e h.symm)]
theorem sl_swp {j i : Nat} (h : j + 1 < L.length) : sl (swp L j) i = if i = j then sl L (j + 1) else if i = j + 1 then sl L j else sl L i := by
  unfold swp
  rw [sl_set (by simp; omega), sl_set (by omega)]
theorem inn_perm : ∀ {j : Nat} {L : List (List UInt8)}, j < L.length → (inn L j).Perm L
  | 0, L, _ => List.Perm.refl _
  | j + 1, L, h => by
    unfold inn
    split
    · exact (inn_perm (j := j) (by rw [len_swp]; omega)).trans (swp_perm h)
    · exact List.Perm.refl _
theorem srtK_perm (L : List (List UInt8)) : ∀ {k : Nat}, k ≤ L.length → (srtK L k).Perm L
  | 0, _ => List.Perm.refl _
  | k + 1, h => by
    have ih := srtK_perm L (k := k) (by omega)
    exact (inn_perm (by rw [ih.length_eq]; omega)).trans ih
theorem len_srtK {k : Nat} (h : k ≤ L.length) : (srtK L k).length = L.length := (srtK_perm L h).length_eq
theorem srt_perm (L : List (List UInt8)) : (srt L).Perm L := srtK_perm L (Nat.le_refl _)
theorem len_srt (L : List (List UInt8)) : (srt L).length = L.length := (srt_perm L).length_eq
/-- The first k things are in order. -/
def SrtB (L : List (List UInt8)) (k : Nat) : Prop := ∀ i i', i < i' → i' < k → lsB (sl L i') (sl L i) = false
/-- .. but for one thing, that at j, which is at most those behind it. -/
def SrtI (L : List (List UInt8)) (k j : Nat) : Prop := ∀ i i', i < i' → i' < k → i' ≠ j → lsB (sl L i') (sl L i) = false
theorem inn_sorted : ∀ {j k : Nat} {L : List (List UInt8)}, j < k → k ≤ L.length → SrtI L k j → SrtB (inn L j) k
  | 0, k, L, _, _, h => fun i i' h1 h2 => h i i' h1 h2 (by omega)
  | j + 1, k, L, hj, hk, h => by
    unfold inn
    split
    · rename_i hls
      refine inn_sorted (by omega) (by rw [len_swp]; exact hk) fun i i' h1 h2 hne => ?_
      rw [sl_swp (by omega), sl_swp (by omega)]
      by_cases e1 : i' = j + 1
      · subst e1
        rw [if_neg (by omega), if_pos rfl]
        by_cases e2 : i = j
        · subst e2
          rw [if_pos rfl]
          exact lsB_asymm hls
        · rw [if_neg e2, if_neg (by omega)]
          exact h i j (by omega) (by omega) (by omega)
      · rw [if_neg hne, if_neg e1]
        by_cases e2 : i = j
        · subst e2
          rw [if_pos rfl]
          exact h (i + 1) i' (by omega) h2 e1
        · rw [if_neg e2]
          by_cases e3 : i = j + 1
          · subst e3
            rw [if_pos rfl]
            exact h j i' (by omega) h2 e1
          · rw [if_neg e3]
            exact h i i' h1 h2 e1
    · rename_i hls
      have hls' : lsB (sl L (j + 1)) (sl L j) = false := by simpa using hls
      intro i i' h1 h2
      by_cases e : i' = j + 1
      · subst e
        by_cases e2 : i = j
        · subst e2; exact hls'
        · exact leB_trans (h i j (by omega) (by omega) (by omega)) hls'
      · exact h i i' h1 h2 e
theorem inn_high : ∀ {j i : Nat} {L : List (List UInt8)}, j < i → j < L.length → sl (inn L j) i = sl L i
  | 0, i, L, _, _ => rfl
  | j + 1, i, L, hi, hj => by
    unfold inn
    split
    · rw [inn_high (by omega) (by rw [len_swp]; omega), sl_swp hj, if_neg (by omega), if_neg (by omega)]
    · rfl
theorem srtK_sorted (L : List (List UInt8)) : ∀ {k : Nat}, k ≤ L.length → SrtB (srtK L k) k
  | 0, _ => fun i i' _ h2 => absurd h2 (Nat.not_lt_zero _)
  | k + 1, h => by
    have ih := srtK_sorted L (k := k) (by omega)
    have hl := len_srtK (L := L) (k := k) (by omega)
    refine inn_sorted (Nat.lt_succ_self _) (by omega) fun i i' h1 h2 hne => ih i i' h1 (by omega)
theorem srt_sorted (L : List (List UInt8)) : SrtB (srt L) L.length := srtK_sorted L (Nat.le_refl _)
theorem sortedW (h : SrtB L L.length) : L.Pairwise fun a b => lsB b a = false := by
  rw [List.pairwise_iff_getElem]
  intro i j hi hj hij
  have := h i j hij hj
  rw [sl_at hi, sl_at hj] at this
  exact this
/-- There is one order. -/
theorem srt_unique {M : List (List UInt8)} (hp : M.Perm L) (hs : SrtB M M.length) : M = srt L := by
  have h1 := sortedW hs
  have h2 := sortedW (L := srt L) (by rw [len_srt]; exact srt_sorted L)
  refine List.Perm.eq_of_pairwise (le := fun a b => lsB b a = false) (fun a b _ _ hab hba => (lsB_tri hba hab)) h1 h2 (hp.trans (srt_perm L).symm)
/-- Different texts in order: each is before the next one. -/
theorem srt_strict (hd : L.Nodup) {i : Nat} (h : i + 1 < L.length) : lsB (sl (srt L) i) (sl (srt L) (i + 1)) = true := by
  have hl := len_srt L
  have hn : (srt L).Nodup := (srt_perm L).nodup_iff.2 hd
  cases e : lsB (sl (srt L) i) (sl (srt L) (i + 1)) with
  | true => rfl
  | false =>
    have := lsB_tri e (srt_sorted L i (i + 1) (by omega) h)
    rw [sl_at (by omega), sl_at (by omega)] at this
    exact absurd this (List.pairwise_iff_getElem.1 hn i (i + 1) (by omega) (by omega) (by omega))
theorem srt_mem {u : List UInt8} : u ∈ srt L ↔ u ∈ L := (srt_perm L).mem_iff
theorem sl_mem {i : Nat} (h : i < L.length) : sl L i ∈ L := by rw [sl_at h]; exact List.getElem_mem h
end
end Go.Proofs.Ythllbekoidogpaa

namespace Go.Proofs.Ythllbekoidogpaa
set_option linter.unusedVariables false

/-- All words of parts with just the letters of a set, in order. -/
def fullL (s : Int) : List (List UInt8) := if (decide (1 ≤ s) && decide (s ≤ 7)) = true then srt (fullF 3 s.toNat) else []
/-- The words of the sets below k + 1, one set after the other. -/
def allC : Nat → List (List UInt8)
  | 0 => []
  | k + 1 => allC k ++ fullF 3 (k + 1)
/-- All words of the first letters. -/
def allW (m : Int) : List (List UInt8) := if (decide (1 ≤ m) && decide (m ≤ 3)) = true then srt (allC (2 ^ m.toNat - 1)) else []
def cntF (m : Int) : Int := if m = 1 then 1 else if m = 2 then 4 else if m = 3 then 144 else -1
theorem fullL_not {s : Int} (h : (decide (1 ≤ s) && decide (s ≤ 7)) = false) : fullL s = [] := by unfold fullL; rw [h]; rfl
theorem fullL_ok {s : Nat} (h1 : 1 ≤ s) (h2 : s ≤ 7) : fullL (s : Int) = srt (fullF 3 s) := by
  unfold fullL
  rw [if_pos (by rw [Bool.and_eq_true, decide_eq_true_iff, decide_eq_true_iff]; omega), Int.toNat_natCast]
theorem allW_not {m : Int} (h : (decide (1 ≤ m) && decide (m ≤ 3)) = false) : allW m = [] := by unfold allW; rw [h]; rfl
theorem allW_ok {m : Nat} (h1 : 1 ≤ m) (h2 : m ≤ 3) : allW (m : Int) = srt (allC (2 ^ m - 1)) := by
  unfold allW
  rw [if_pos (by rw [Bool.and_eq_true, decide_eq_true_iff, decide_eq_true_iff]; omega), Int.toNat_natCast]
theorem len_allC : ∀ k, k < 8 → (allC k).length ≤ 159 := by
  have h : ∀ k : Fin 8, (decide ((allC k).length ≤ 159)) = true := by decide +kernel
  intro k hk
  simpa using h ⟨k, hk⟩
theorem full_ne {s : Nat} (h1 : 1 ≤ s) (h2 : s ≤ 7) : 1 ≤ (fullF 3 s).length := by
  have h : ∀ s : Fin 8, 1 ≤ (s : Nat) → (decide (1 ≤ (fullF 3 s).length)) = true := by decide +kernel
  simpa using h ⟨s, by omega⟩ h1
theorem full_len {s : Nat} (h2 : s ≤ 7) : (fullF 3 s).length ≤ 144 := (full_small 3 (by omega) s (by omega)).1
theorem pc_le {s : Nat} (h2 : s ≤ 7) : pc s ≤ 3 := by
  have h : ∀ s : Fin 8, pc s ≤ 3 := by decide
  exact h ⟨s, by omega⟩
/-- Which letters of three a word has. -/
def w1L : List (List UInt8) := [[97]]
def w2L : List (List UInt8) := [[97], [97, 98, 97, 98], [97, 98, 98, 97], [98], [98, 97, 97, 98], [98, 97, 98, 97]]
theorem allW_one : allW 1 = w1L := by decide +kernel
theorem allW_two : allW 2 = w2L := by decide +kernel
/-- The first place of a text. -/
def ixF (x : List UInt8) : List (List UInt8) → Nat
  | [] => 0
  | y :: L => if y = x then 0 else ixF x L + 1
/-- The number of the product of two words. -/
def ixP (L : List (List UInt8)) (k j : Nat) : Nat := ixF (made (sl L k ++ sl L j)) L
def rowX (L : List (List UInt8)) (k j : Nat) : List Int := (List.range j).map fun y => ((ixP L k y : Nat) : Int)
def rowsX (L : List (List UInt8)) (k : Nat) : List (List Int) := (List.range k).map fun x => rowX L x L.length
def freeT (m : Int) : List (List Int) := if (decide (1 ≤ m) && decide (m ≤ 2)) = true then rowsX (allW m) (allW m).length else []
theorem freeT_not {m : Int} (h : (decide (1 ≤ m) && decide (m ≤ 2)) = false) : freeT m = [] := by unfold freeT; rw [h]; rfl
theorem freeT_ok {m : Int} (h : (decide (1 ≤ m) && decide (m ≤ 2)) = true) : freeT m = rowsX (allW m) (allW m).length := by unfold freeT; rw [h]; rfl
theorem rowX_succ (L : List (List UInt8)) (k j : Nat) : rowX L k j ++ [((ixP L k j : Nat) : Int)] = rowX L k (j + 1) := by simp [rowX, List.range_succ]
theorem rowsX_succ (L : List (List UInt8)) (k : Nat) : rowsX L k ++ [rowX L k L.length] = rowsX L (k + 1) := by simp [rowsX, List.range_succ]
theorem len_rowX (L : List (List UInt8)) (k j : Nat) : (rowX L k j).length = j := by simp [rowX]
theorem len_rowsX (L : List (List UInt8)) (k : Nat) : (rowsX L k).length = k := by simp [rowsX]
/-- A list of words that is closed under joining, without one word twice. -/
structure FreeOk (L : List (List UInt8)) : Prop where
  len : 1 ≤ L.length ∧ L.length ≤ 6
  word : ∀ k, k < L.length → okW (sl L k) = true ∧ (sl L k).length ≤ 4
  ix : ∀ k j, k < L.length → j < L.length → ixP L k j < L.length
  uniq : ∀ i k j, i < L.length → k < L.length → j < L.length → decide (sl L i = made (sl L k ++ sl L j)) = decide (i = ixP L k j)
theorem freeOk1 : FreeOk w1L := by
  refine ⟨by decide, fun k hk => ?_, fun k j hk hj => ?_, fun i k j hi hk hj => ?_⟩
  · have h : ∀ k : Fin 1, (okW (sl w1L k) && decide ((sl w1L k).length ≤ 4)) = true := by decide +kernel
    simpa using h ⟨k, hk⟩
  · have h : ∀ k j : Fin 1, ixP w1L k j < 1 := by decide +kernel
    exact h ⟨k, hk⟩ ⟨j, hj⟩
  · have h : ∀ i k j : Fin 1, decide (sl w1L i = made (sl w1L k ++ sl w1L j)) = decide ((i : Nat) = ixP w1L k j) := by decide +kernel
    exact h ⟨i, hi⟩ ⟨k, hk⟩ ⟨j, hj⟩
theorem freeOk2 : FreeOk w2L := by
  refine ⟨by decide, fun k hk => ?_, fun k j hk hj => ?_, fun i k j hi hk hj => ?_⟩
  · have h : ∀ k : Fin 6, (okW (sl w2L k) && decide ((sl w2L k).length ≤ 4)) = true := by decide +kernel
    simpa using h ⟨k, hk⟩
  · have h : ∀ k j : Fin 6, ixP w2L k j < 6 := by decide +kernel
    exact h ⟨k, hk⟩ ⟨j, hj⟩
  · have h : ∀ i k j : Fin 6, decide (sl w2L i = made (sl w2L k ++ sl w2L j)) = decide ((i : Nat) = ixP w2L k j) := by decide +kernel
    exact h ⟨i, hi⟩ ⟨k, hk⟩ ⟨j, hj⟩
theorem freeOk {m : Int} (h : (decide (1 ≤ m) && decide (m ≤ 2)) = true) : FreeOk (allW m) := by
  rw [Bool.and_eq_true, decide_eq_true_iff, decide_eq_true_iff] at h
  obtain rfl | rfl : m = 1 ∨ m = 2 := by omega
  · rw [allW_one]; exact freeOk1
  · rw [allW_two]; exact freeOk2
/-- The values of all words of two letters. -/
noncomputable def picC (T : List (List Int)) (a b : Int) (k : Nat) : List Int := (List.range k).map fun x => valW T (sl (allW 2) x) a b a
def canP (T : List (List Int)) (a b : Int) : Bool := okT T && (inT T a && inT T b)
noncomputable def picW (T : List (List Int)) (a b : Int) : List Int := if canP T a b = true then picC T a b 6 else []
theorem picW_not {T : List (List Int)} {a b : Int} (h : canP T a b = false) : picW T a b = [] := by unfold picW; rw [h]; rfl
theorem picW_ok {T : List (List Int)} {a b : Int} (h : canP T a b = true) : picW T a b = picC T a b 6 := by unfold picW; rw [h]; rfl
theorem picC_succ (T : List (List Int)) (a b : Int) (k : Nat) : picC T a b k ++ [valW T (sl (allW 2) k) a b a] = picC T a b (k + 1) := by simp [picC, List.range_succ]
theorem len_picC (T : List (List Int)) (a b : Int) (k : Nat) : (picC T a b k).length = k := by simp [picC]
theorem len_fullL (s : Int) : (fullL s).length ≤ 144 := by
  cases hc : (decide (1 ≤ s) && decide (s ≤ 7))
  · rw [fullL_not hc]; simp
  · have h17 : 1 ≤ s ∧ s ≤ 7 := by simpa using hc
    obtain ⟨n, rfl⟩ : ∃ n : Nat, s = n := ⟨s.toNat, by omega⟩
    rw [fullL_ok (by omega) (by omega), len_srt]
    exact full_len (by omega)
theorem len_allW (m : Int) : (allW m).length ≤ 159 := by
  cases hc : (decide (1 ≤ m) && decide (m ≤ 3))
  · rw [allW_not hc]; simp
  · have h13 : 1 ≤ m ∧ m ≤ 3 := by simpa using hc
    obtain ⟨n, rfl⟩ : ∃ n : Nat, m = n := ⟨m.toNat, by omega⟩
    rw [allW_ok (by omega) (by omega), len_srt]
    refine len_allC _ ?_
    have : 2 ^ n ≤ 2 ^ 3 := Nat.pow_le_pow_right (by omega) (by omega)
    omega
theorem rw_rowsX {L : List (List UInt8)} {k i : Nat} (h : i < k) : rw_ (rowsX L k) i = rowX L i L.length := by simp [rowsX, rw_, List.getD, h]
theorem el_rowX {L : List (List UInt8)} {k i j : Nat} (h : i < j) : el (rowX L k j) i = ((ixP L k i : Nat) : Int) := by simp [rowX, el, List.getD, h]
theorem small_freeT (m : Int) : Small (freeT m) := by
  cases hc : (decide (1 ≤ m) && decide (m ≤ 2))
  · rw [freeT_not hc]; exact ⟨by simp, fun i hi => absurd hi (Nat.not_lt_zero _)⟩
  · rw [freeT_ok hc]
    have h6 := (freeOk hc).len
    refine ⟨by rw [len_rowsX]; omega, fun i hi => ?_⟩
    rw [len_rowsX] at hi
    rw [rw_rowsX hi, len_rowX]
    omega
theorem len_picW (T : List (List Int)) (a b : Int) : (picW T a b).length ≤ 6 := by
  cases h : canP T a b
  · rw [picW_not h]; simp
  · rw [picW_ok h, len_picC]; exact Nat.le_refl _
end Go.Proofs.Ythllbekoidogpaa
