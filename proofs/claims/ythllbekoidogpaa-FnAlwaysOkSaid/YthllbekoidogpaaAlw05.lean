/-  -/
import Derived.Test.YthllbekoidogpaaAlw04
import Derived.Test.YthllbekoidogpaaAlw03
import Derived.Test.YthllbekoidogpaaAlw02
namespace Go.Proofs.Ythllbekoidogpaa
set_option linter.unusedVariables false

/-- Whether an identity holds. -/
noncomputable def hldW (T : List (List Int)) (u v : List UInt8) : Bool := canA T u v && (apart T u v).isNone
/-- Both words have the same value at all things. -/
def Hld (T : List (List Int)) (u v : List UInt8) : Prop := ∀ a b c : Int, Th T a → Th T b → Th T c → vw T (ltf a b c) u = vw T (ltf a b c) v
section
variable {T U : List (List Int)} {u v : List UInt8} {f : UInt8 → Int}
theorem in_of_th {x : Int} (h : Th T x) : inT T x = true := inT_iff.2 ⟨x.toNat, by have := h.1; omega, by have := h.1; have := h.2; omega⟩
theorem canA_iff : canA T u v = true ↔ okT T = true ∧ okW u = true ∧ okW v = true := by
  unfold canA
  rw [Bool.and_eq_true, Bool.and_eq_true]
theorem valW_th {a b c : Int} (hk : okT T = true) (hu : okW u = true) (ha : Th T a) (hb : Th T b) (hc : Th T c) : valW T u a b c = vw T (ltf a b c) u :=
  (valW_can (by unfold canV; rw [hk, hu, in_of_th ha, in_of_th hb, in_of_th hc]; rfl)).1
theorem hld_iff : hldW T u v = true ↔ canA T u v = true ∧ Hld T u v := by
  unfold hldW
  rw [Bool.and_eq_true]
  refine and_congr_right fun hc => ?_
  obtain ⟨hk, hu, hv⟩ := canA_iff.1 hc
  have hT := okT_iff.1 hk
  have hlo := hT.lo
  constructor
  · intro hn a b c ha hb hcc
    have hnone : apart T u v = none := by simpa using hn
    obtain ⟨x, rfl⟩ : ∃ x : Nat, a = x := ⟨a.toNat, by have := ha.1; omega⟩
    obtain ⟨y, rfl⟩ : ∃ x : Nat, b = x := ⟨b.toNat, by have := hb.1; omega⟩
    obtain ⟨z, rfl⟩ : ∃ x : Nat, c = x := ⟨c.toNat, by have := hcc.1; omega⟩
    have hx : x < T.length := by have := ha.2; omega
    have hy : y < T.length := by have := hb.2; omega
    have hz : z < T.length := by have := hcc.2; omega
    obtain ⟨n, hn'⟩ : ∃ n, n = T.length := ⟨_, rfl⟩
    have hlt : (x * n + y) * n + z < n * n * n := by
      have h1 : x * n + y + 1 ≤ n * n := by
        have := Nat.mul_le_mul_right n (show x + 1 ≤ n by omega)
        rw [Nat.add_mul, Nat.one_mul] at this
        omega
      have h2 := Nat.mul_le_mul_right n h1
      rw [Nat.add_mul, Nat.one_mul] at h2
      omega
    have hd : difA T u v ((x * n + y) * n + z) = false := by
      have := hnone
      unfold apart at this
      rw [if_pos hc, List.find?_eq_none] at this
      have := this _ (List.mem_range.2 (show (x * n + y) * n + z < T.length * T.length * T.length by rw [← hn']; exact hlt))
      simpa using this
    have q1 : ((((x * n + y) * n + z : Nat) : Int) / (n : Int)) = ((x * n + y : Nat) : Int) := by
      rw [← Int.natCast_ediv]
      congr 1
      rw [Nat.add_comm, Nat.add_mul_div_right _ _ (by omega), Nat.div_eq_of_lt (by omega), Nat.zero_add]
    have q2 : (((x * n + y : Nat) : Int) / (n : Int)) = (x : Int) := by
      rw [← Int.natCast_ediv]
      congr 1
      rw [Nat.add_comm, Nat.add_mul_div_right _ _ (by omega), Nat.div_eq_of_lt (by omega), Nat.zero_add]
    have q3 : (((x * n + y : Nat) : Int) % (n : Int)) = (y : Int) := by
      rw [← Int.natCast_emod]
      congr 1
      rw [Nat.add_comm, Nat.add_mul_mod_self_right, Nat.mod_eq_of_lt (by omega)]
    have q4 : ((((x * n + y) * n + z : Nat) : Int) % (n : Int)) = (z : Int) := by
      rw [← Int.natCast_emod]
      congr 1
      rw [Nat.add_comm, Nat.add_mul_mod_self_right, Nat.mod_eq_of_lt (by omega)]
    unfold difA at hd
    rw [← hn', q1, q2, q3, q4] at hd
    have : valW T u x y z = valW T v x y z := by simpa using hd
    rwa [valW_th hk hu ha hb hcc, valW_th hk hv ha hb hcc] at this
  · intro h
    have : apart T u v = none := apart_all hc fun j hj => by
      obtain ⟨n, hn'⟩ : ∃ n, n = T.length := ⟨_, rfl⟩
      have hth : ∀ q : Int, 0 ≤ q → q < (T.length : Int) → Th T q := fun q h0 h1 => ⟨h0, h1⟩
      have hpos : (0 : Int) < (T.length : Int) := by omega
      have e1 : Th T ((j : Int) % (T.length : Int)) := hth _ (Int.emod_nonneg _ (by omega)) (Int.emod_lt_of_pos _ hpos)
      have e2 : Th T ((j : Int) / (T.length : Int) % (T.length : Int)) := hth _ (Int.emod_nonneg _ (by omega)) (Int.emod_lt_of_pos _ hpos)
      have e3 : Th T ((j : Int) / (T.length : Int) / (T.length : Int)) := hth _ (Int.ediv_nonneg (Int.ediv_nonneg (by omega) (by omega)) (by omega)) (by
        rw [Int.ediv_ediv_of_nonneg (by omega)]
        refine Int.ediv_lt_of_lt_mul (Int.mul_pos hpos hpos) ?_
        rw [← Int.natCast_mul, ← Int.natCast_mul]
        have : T.length * T.length * T.length = T.length * (T.length * T.length) := Nat.mul_assoc _ _ _
        omega)
      unfold difA
      rw [valW_th hk hu e3 e2 e1, valW_th hk hv e3 e2 e1, h _ _ _ e3 e2 e1]
      simp
    rw [this]; rfl
theorem sta_th {a b c : Int} (ha : Th T a) (hb : Th T b) (hc : Th T c) : Sta T (ltf a b c) := sta_ltf (in_of_th ha) (in_of_th hb) (in_of_th hc)
end
/-- The nine identities with names. -/
def idU (k : Nat) : List UInt8 := ([[97, 97], [97, 98], [97, 98], [97, 98], [97, 98, 97], [97, 98, 97], [97, 98, 97], [97, 98, 99, 97], [97, 98, 97, 99, 97]] : List (List UInt8)).getD k []
def idV (k : Nat) : List UInt8 := ([[97], [98, 97], [97], [98], [97], [97, 98], [98, 97], [97, 99, 98, 97], [97, 98, 99, 97]] : List (List UInt8)).getD k []
section
variable {T : List (List Int)}
end
end Go.Proofs.Ythllbekoidogpaa

namespace Go.Proofs.Ythllbekoidogpaa
open Go.RowKit
set_option linter.unusedVariables false


/-- The j-th text of a row. -/
def sl (L : List (List UInt8)) (j : Nat) : List UInt8 := L.getD j []
/-- A row of texts in blocks from lo on, below hi. -/
def Srow (w : World) (lo hi : Nat) (A : Option Addr) (L : List (List UInt8)) : Prop :=
  ∀ j, j < L.length → ∃ b o, A = some ⟨b, o, none⟩ ∧ lo ≤ b ∧ b < hi ∧ w.cell? ⟨b, o + j, none⟩ = some (.string (bs (sl L j)))
def SCells (w : World) (g : Nat) (L : List (List UInt8)) : Prop :=
  ∀ j, j < L.length → w.cell? ⟨g, j, none⟩ = some (.string (bs (sl L j))) ∧ w.frozen? ⟨g, j, none⟩ = false
def OStr (w : World) (lo hi : Nat) (A : Option Addr) (L : List (List UInt8)) : Prop := L.length = 0 ∨ ∃ g, A = some ⟨g, 0, none⟩ ∧ lo ≤ g ∧ g < hi ∧ SCells w g L
def NewStr (w : World) (L : List (List UInt8)) (e : Ending) (w' : World) : Prop := ∃ A c, e = .returned (.slice A L.length c) ∧ Below w.heap.size w w' ∧ Srow w' w.heap.size w'.heap.size A L ∧ L.length ≤ c ∧ c ≤ 9223372036854775807
/-- A row of texts of the call's own, made by appending. -/
def AStr (base : Nat) (w : World) (v : Value) (L : List (List UInt8)) : Prop := w.ownsRow base 9 1 v L.length (L.map fun u => Value.string (bs u))
theorem info_str : (Try.prog.info? 9).map (fun i => (i.zero, i.size, i.bytes)) = some (some (.string ⟨#[]⟩), 1, 16) := by kernel_rfl
section
variable {w w' : World} {lo hi base : Nat} {A : Option Addr} {L : List (List UInt8)} {v : Value}
theorem sl_at {j : Nat} (h : j < L.length) : sl L j = L[j] := by simp [sl, List.getD, h]
theorem Srow.keep (h : Srow w lo hi A L) (hk : ∀ k, lo ≤ k → k < hi → w'.heap[k]? = w.heap[k]?) : Srow w' lo hi A L := fun j hj => by
  obtain ⟨b, o, e, h1, h2, hc⟩ := h j hj
  exact ⟨b, o, e, h1, h2, (World.cell?_of_block (w := w) (hk b h1 h2)).trans hc⟩
theorem Srow.mono (h : Srow w lo hi A L) {lo' hi' : Nat} (h1 : lo' ≤ lo) (h2 : hi ≤ hi') : Srow w lo' hi' A L := fun j hj => by
  obtain ⟨b, o, e, a1, a2, hc⟩ := h j hj
  exact ⟨b, o, e, by omega, by omega, hc⟩
theorem Srow.below {B : Nat} (h : Srow w lo hi A L) (hb : Below B w w') (hB : hi ≤ B) : Srow w' lo hi A L := h.keep fun k _ hk => hb.block k (by omega)
theorem Srow.only {lo' hi' : Nat} (h : Srow w lo hi A L) (hb : Only lo' hi' w w') (hs : hi ≤ w.heap.size) (hd : hi ≤ lo' ∨ hi' ≤ lo) : Srow w' lo hi A L := h.keep fun k h1 h2 => hb.block k (by omega) (by omega)
theorem Srow.nil (w : World) (lo hi : Nat) (A : Option Addr) : Srow w lo hi A [] := fun _ hj => absurd hj (Nat.not_lt_zero _)
theorem SCells.keep {g : Nat} (h : SCells w g L) (hk : w'.heap[g]? = w.heap[g]?) : SCells w' g L := fun j hj =>
  ⟨(World.cell?_of_block (w := w) hk).trans (h j hj).1, (World.frozen?_of_block (w := w) hk).trans (h j hj).2⟩
theorem OStr.row (h : OStr w lo hi A L) : Srow w lo hi A L := by
  rcases h with h | ⟨g, rfl, h1, h2, h3⟩
  · exact fun j hj => by omega
  · exact fun j hj => ⟨g, 0, rfl, h1, h2, by simpa using (h3 j hj).1⟩
theorem OStr.keep (h : OStr w lo hi A L) (hk : ∀ k, lo ≤ k → k < hi → w'.heap[k]? = w.heap[k]?) : OStr w' lo hi A L := by
  rcases h with h | ⟨g, e, h1, h2, h3⟩
  · exact .inl h
  · exact .inr ⟨g, e, h1, h2, h3.keep (hk g h1 h2)⟩
theorem OStr.below {B : Nat} (h : OStr w lo hi A L) (hb : Below B w w') (hB : hi ≤ B) : OStr w' lo hi A L := h.keep fun k _ hk => hb.block k (by omega)
theorem OStr.only {lo' hi' : Nat} (h : OStr w lo hi A L) (hb : Only lo' hi' w w') (hs : hi ≤ w.heap.size) (hd : hi ≤ lo' ∨ hi' ≤ lo) : OStr w' lo hi A L := h.keep fun k h1 h2 => hb.block k (by omega) (by omega)
theorem OStr.mono (h : OStr w lo hi A L) {lo' hi' : Nat} (h1 : lo' ≤ lo) (h2 : hi ≤ hi') : OStr w lo' hi' A L := by
  rcases h with h | ⟨g, e, a1, a2, h3⟩
  · exact .inl h
  · exact .inr ⟨g, e, by omega, by omega, h3⟩
theorem OStr.nil (w : World) (lo hi : Nat) (A : Option Addr) : OStr w lo hi A [] := .inl rfl
theorem AStr.below (h : AStr base w v L) (hb : Below w.heap.size w w') : AStr base w' v L := ownsRow_below h hb
theorem AStr.mono {base' : Nat} (h : AStr base w v L) (hb : base' ≤ base) : AStr base' w v L := ownsRow_mono h hb
theorem AStr.nil_ (base : Nat) (w : World) : AStr base w (.slice none 0 0) [] := World.ownsRow_nil w base _ _
theorem AStr.made (hb : base ≤ w.heap.size) : AStr base (w.alloc (.cells #[] 9)) (.slice (some ⟨w.heap.size, 0, none⟩) 0 0) [] := World.ownsRow_made w #[] 0 hb (by simp [maxLen]) rfl
theorem AStr.belowOf {base0 : Nat} {w1 : World} (h : AStr base w v L) (hg : w.grownBy w1 v.ownBlock) (hb : base0 ≤ base) (hw : base0 ≤ w.heap.size) : Below base0 w w1 :=
  (Below.refl _ _).grown hg hw fun k hk => Nat.le_trans hb (h.lt k hk).1
theorem AStr.ostr (h : AStr base w v L) : ∃ A c, v = .slice A L.length c ∧ L.length ≤ c ∧ c ≤ 9223372036854775807 ∧ OStr w base w.heap.size A L := by
  rcases h.2 with ⟨rfl, h0⟩ | ⟨g, cap, cur, rfl, hg, hh, hc, hm, _, _⟩
  · have : L = [] := List.eq_nil_of_length_eq_zero h0
    subst this
    exact ⟨none, 0, rfl, Nat.le_refl _, by omega, OStr.nil _ _ _ _⟩
  · refine ⟨_, cap, rfl, hc, by rw [maxLen_is] at hm; exact hm, .inr ⟨g, rfl, hg, (Array.getElem?_eq_some_iff.1 hh).1, fun j hj => ⟨?_, ?_⟩⟩⟩
    · have := h.cells (g := g) rfl j (.string (bs (sl L j))) (by simp [hj, sl, List.getD])
      simpa [Addr.add_lit] using this
    · simp [World.frozen?, hh]
theorem AStr.val (h : AStr base w v L) : ∃ A c, v = .slice A L.length c ∧ L.length ≤ c ∧ c ≤ 9223372036854775807 ∧ Srow w base w.heap.size A L := by
  obtain ⟨A, c, e, h1, h2, h3⟩ := h.ostr
  exact ⟨A, c, e, h1, h2, h3.row⟩
end

end Go.Proofs.Ythllbekoidogpaa

namespace Go.Proofs.Ythllbekoidogpaa
set_option linter.unusedVariables false

/-- The letter of a bit. -/
def lx (i : Nat) : UInt8 := if i = 0 then 97 else if i = 1 then 98 else 99
/-- The words with one head, and the tails below k. -/
def rowW (h : List UInt8) (i j : Nat) (tails : List (List UInt8)) : Nat → List (List UInt8)
  | 0 => []
  | k + 1 => rowW h i j tails k ++ [h ++ [lx i] ++ [lx j] ++ sl tails k]
/-- The words with the heads below k, and all tails. -/
def blkW (heads tails : List (List UInt8)) (i j : Nat) : Nat → List (List UInt8)
  | 0 => []
  | k + 1 => blkW heads tails i j k ++ rowW (sl heads k) i j tails tails.length
/-- All heads and tails for two letters, if both are in the set. -/
def parW (g : Nat → List (List UInt8)) (s i j : Nat) : List (List UInt8) := if (s.testBit i && s.testBit j) = true then blkW (g (s - 2 ^ i)) (g (s - 2 ^ j)) i j (g (s - 2 ^ i)).length else []
def accY (g : Nat → List (List UInt8)) (s i : Nat) : Nat → List (List UInt8)
  | 0 => []
  | j + 1 => accY g s i j ++ parW g s i j
def accX (g : Nat → List (List UInt8)) (s : Nat) : Nat → List (List UInt8)
  | 0 => []
  | i + 1 => accX g s i ++ accY g s i 3
/-- All words of parts with just the letters of a set; f: how many letters at most. -/
def fullF : Nat → Nat → List (List UInt8)
  | 0, _ => []
  | f + 1, s => if s = 1 then [[97]] else if s = 2 then [[98]] else if s = 4 then [[99]] else accX (fullF f) s 3
/-- How many letters a set has. -/
def pc (s : Nat) : Nat := s % 2 + s / 2 % 2 + s / 4
theorem full_small : ∀ f, f < 4 → ∀ s, s < 8 → (fullF f s).length ≤ 144 ∧ ∀ u, u ∈ fullF f s → u.length ≤ 10 := by
  have h : ∀ f : Fin 4, ∀ s : Fin 8, (decide ((fullF f s).length ≤ 144) && (fullF f s).all fun u => decide (u.length ≤ 10)) = true := by decide +kernel
  intro f hf s hs
  have := h ⟨f, hf⟩ ⟨s, hs⟩
  simp only [Bool.and_eq_true, decide_eq_true_iff, List.all_eq_true] at this
  exact ⟨this.1, this.2⟩
theorem len_rowW (h : List UInt8) (i j : Nat) (tails : List (List UInt8)) : ∀ k, (rowW h i j tails k).length = k
  | 0 => rfl
  | k + 1 => by simp [rowW, len_rowW h i j tails k]
theorem len_blkW (heads tails : List (List UInt8)) (i j : Nat) : ∀ k, (blkW heads tails i j k).length = k * tails.length
  | 0 => by simp [blkW]
  | k + 1 => by rw [blkW, List.length_append, len_blkW heads tails i j k, len_rowW, Nat.succ_mul]
section
variable {g : Nat → List (List UInt8)} {s : Nat}
theorem len_parW (h : ∀ x, x < 8 → (g x).length ≤ 144) (hs : s < 8) (i j : Nat) : (parW g s i j).length ≤ 20736 := by
  unfold parW
  split
  · rw [len_blkW]
    exact Nat.mul_le_mul (h _ (Nat.lt_of_le_of_lt (Nat.sub_le _ _) hs)) (h _ (Nat.lt_of_le_of_lt (Nat.sub_le _ _) hs))
  · simp
theorem len_accY (h : ∀ x, x < 8 → (g x).length ≤ 144) (hs : s < 8) (i : Nat) : ∀ j, (accY g s i j).length ≤ j * 20736
  | 0 => by simp [accY]
  | j + 1 => by
    have := len_accY h hs i j
    have := len_parW h hs i j
    rw [accY, List.length_append]; omega
theorem len_accX (h : ∀ x, x < 8 → (g x).length ≤ 144) (hs : s < 8) : ∀ i, (accX g s i).length ≤ i * 62208
  | 0 => by simp [accX]
  | i + 1 => by
    have := len_accX h hs i
    have := len_accY h hs i 3
    rw [accX, List.length_append]; omega
end
theorem pc_sub {s i : Nat} (hs : s < 8) (hi : i < 3) (h : s.testBit i = true) (hn : s ≠ 1 ∧ s ≠ 2 ∧ s ≠ 4) : 1 ≤ s - 2 ^ i ∧ s - 2 ^ i < 8 ∧ pc (s - 2 ^ i) + 1 = pc s ∧ 2 ^ i ≤ s := by
  have hh : ∀ s : Fin 8, ∀ i : Fin 3, (s : Nat).testBit i = true → ((s : Nat) ≠ 1 ∧ (s : Nat) ≠ 2 ∧ (s : Nat) ≠ 4) → 1 ≤ (s : Nat) - 2 ^ (i : Nat) ∧ (s : Nat) - 2 ^ (i : Nat) < 8 ∧ pc ((s : Nat) - 2 ^ (i : Nat)) + 1 = pc s ∧ 2 ^ (i : Nat) ≤ (s : Nat) := by decide
  exact hh ⟨s, hs⟩ ⟨i, hi⟩ h hn
theorem and_bit {s i : Nat} (hs : s < 8) (hi : i < 3) : bits .and .i64 (s : Int) ((2 ^ i : Nat) : Int) = if s.testBit i = true then ((2 ^ i : Nat) : Int) else 0 := by
  have h := and_pow (s := s) (p := i) (by omega) (by omega)
  rw [show ((2 ^ i : Nat) : Int) = (2 : Int) ^ i by simp]
  exact h
end Go.Proofs.Ythllbekoidogpaa

namespace Go.Proofs.Ythllbekoidogpaa
set_option linter.unusedVariables false

/-- One text before another one, in the order of bytes. -/
def lsB (u v : List UInt8) : Bool := Go.Op.bytesLess u v
/-- Two neighbours are exchanged. -/
def swp (L : List (List UInt8)) (j : Nat) : List (List UInt8) := (L.set (j + 1) (sl L j)).set j (sl L (j + 1))
/-- The thing at a place goes down as long as it is before the one below it. -/
def inn (L : List (List UInt8)) : Nat → List (List UInt8)
  | 0 => L
  | j + 1 => if lsB (sl L (j + 1)) (sl L j) = true then inn (swp L j) j else L
/-- The first k things in order. -/
def srtK (L : List (List UInt8)) : Nat → List (List UInt8)
  | 0 => L
  | k + 1 => inn (srtK L k) k
def srt (L : List (List UInt8)) : List (List UInt8) := srtK L L.length
section
variable {L : List (List UInt8)}
theorem len_swp (j : Nat) : (swp L j).length = L.length := by simp [swp]
theorem swp_perm {j : Nat} (h : j + 1 < L.length) : (swp L j).Perm L := by
  have h0 : j < L.length := by omega
  have := List.set_set_perm h h0
  unfold swp
  rw [sl_at h0, sl_at h]
  exact this
theorem sl_set {j i : Nat} {z : List UInt8} (hj : j < L.length) : sl (L.set j z) i = if i = j then z else sl L i := by
  unfold sl
  rw [List.getD_eq_getElem?_getD, List.getElem?_set, List.getD_eq_getElem?_getD]
  by_cases e : j = i
  · subst e; simp [hj]
  · rw [if_neg e, if_neg (fun h => e h.symm)]
theorem inn_perm : ∀ {j : Nat} {L : List (List UInt8)}, j < L.length → (inn L j).Perm L
  | 0, L, _ => List.Perm.refl _
  | j + 1, L, h => by
    unfold inn
    split
    · exact (inn_perm (j := j) (by rw [len_swp]; omega)).trans (swp_perm h)
    · exact List.Perm.refl _
theorem srtK_perm (L : List (List UInt8)) : ∀ {k : Nat}, k ≤ L.length → (srtK L k).Perm L
  | 0, _ => List.Perm.refl _
  | k + 1, h => by
    have ih := srtK_perm L (k := k) (by omega)
    exact (inn_perm (by rw [ih.length_eq]; omega)).trans ih
theorem len_srtK {k : Nat} (h : k ≤ L.length) : (srtK L k).length = L.length := (srtK_perm L h).length_eq
theorem srt_perm (L : List (List UInt8)) : (srt L).Perm L := srtK_perm L (Nat.le_refl _)
theorem len_srt (L : List (List UInt8)) : (srt L).length = L.length := (srt_perm L).length_eq
end
end Go.Proofs.Ythllbekoidogpaa

namespace Go.Proofs.Ythllbekoidogpaa
set_option linter.unusedVariables false

/-- The words of the sets below k + 1, one set after the other. -/
def allC : Nat → List (List UInt8)
  | 0 => []
  | k + 1 => allC k ++ fullF 3 (k + 1)
/-- All words of the first letters. -/
def allW (m : Int) : List (List UInt8) := if (decide (1 ≤ m) && decide (m ≤ 3)) = true then srt (allC (2 ^ m.toNat - 1)) else []
theorem allW_not {m : Int} (h : (decide (1 ≤ m) && decide (m ≤ 3)) = false) : allW m = [] := by unfold allW; rw [h]; rfl
theorem allW_ok {m : Nat} (h1 : 1 ≤ m) (h2 : m ≤ 3) : allW (m : Int) = srt (allC (2 ^ m - 1)) := by
  unfold allW
  rw [if_pos (by rw [Bool.and_eq_true, decide_eq_true_iff, decide_eq_true_iff]; omega), Int.toNat_natCast]
theorem len_allC : ∀ k, k < 8 → (allC k).length ≤ 159 := by
  have h : ∀ k : Fin 8, (decide ((allC k).length ≤ 159)) = true := by decide +kernel
  intro k hk
  simpa using h ⟨k, hk⟩
theorem full_ne {s : Nat} (h1 : 1 ≤ s) (h2 : s ≤ 7) : 1 ≤ (fullF 3 s).length := by
  have h : ∀ s : Fin 8, 1 ≤ (s : Nat) → (decide (1 ≤ (fullF 3 s).length)) = true := by decide +kernel
  simpa using h ⟨s, by omega⟩ h1
theorem full_len {s : Nat} (h2 : s ≤ 7) : (fullF 3 s).length ≤ 144 := (full_small 3 (by omega) s (by omega)).1
theorem pc_le {s : Nat} (h2 : s ≤ 7) : pc s ≤ 3 := by
  have h : ∀ s : Fin 8, pc s ≤ 3 := by decide
  exact h ⟨s, by omega⟩
/-- Which letters of three a word has. -/
def w1L : List (List UInt8) := [[97]]
def w2L : List (List UInt8) := [[97], [97, 98, 97, 98], [97, 98, 98, 97], [98], [98, 97, 97, 98], [98, 97, 98, 97]]
theorem allW_one : allW 1 = w1L := by decide +kernel
theorem allW_two : allW 2 = w2L := by decide +kernel
/-- The first place of a text. -/
def ixF (x : List UInt8) : List (List UInt8) → Nat
  | [] => 0
  | y :: L => if y = x then 0 else ixF x L + 1
/-- The number of the product of two words. -/
def ixP (L : List (List UInt8)) (k j : Nat) : Nat := ixF (made (sl L k ++ sl L j)) L
def rowX (L : List (List UInt8)) (k j : Nat) : List Int := (List.range j).map fun y => ((ixP L k y : Nat) : Int)
def rowsX (L : List (List UInt8)) (k : Nat) : List (List Int) := (List.range k).map fun x => rowX L x L.length
def freeT (m : Int) : List (List Int) := if (decide (1 ≤ m) && decide (m ≤ 2)) = true then rowsX (allW m) (allW m).length else []
theorem freeT_not {m : Int} (h : (decide (1 ≤ m) && decide (m ≤ 2)) = false) : freeT m = [] := by unfold freeT; rw [h]; rfl
theorem freeT_ok {m : Int} (h : (decide (1 ≤ m) && decide (m ≤ 2)) = true) : freeT m = rowsX (allW m) (allW m).length := by unfold freeT; rw [h]; rfl
theorem rowX_succ (L : List (List UInt8)) (k j : Nat) : rowX L k j ++ [((ixP L k j : Nat) : Int)] = rowX L k (j + 1) := by simp [rowX, List.range_succ]
theorem rowsX_succ (L : List (List UInt8)) (k : Nat) : rowsX L k ++ [rowX L k L.length] = rowsX L (k + 1) := by simp [rowsX, List.range_succ]
theorem len_rowX (L : List (List UInt8)) (k j : Nat) : (rowX L k j).length = j := by simp [rowX]
theorem len_rowsX (L : List (List UInt8)) (k : Nat) : (rowsX L k).length = k := by simp [rowsX]
/-- A list of words that is closed under joining, without one word twice. -/
structure FreeOk (L : List (List UInt8)) : Prop where
  len : 1 ≤ L.length ∧ L.length ≤ 6
  word : ∀ k, k < L.length → okW (sl L k) = true ∧ (sl L k).length ≤ 4
  ix : ∀ k j, k < L.length → j < L.length → ixP L k j < L.length
  uniq : ∀ i k j, i < L.length → k < L.length → j < L.length → decide (sl L i = made (sl L k ++ sl L j)) = decide (i = ixP L k j)
theorem freeOk1 : FreeOk w1L := by
  refine ⟨by decide, fun k hk => ?_, fun k j hk hj => ?_, fun i k j hi hk hj => ?_⟩
  · have h : ∀ k : Fin 1, (okW (sl w1L k) && decide ((sl w1L k).length ≤ 4)) = true := by decide +kernel
    simpa using h ⟨k, hk⟩
  · have h : ∀ k j : Fin 1, ixP w1L k j < 1 := by decide +kernel
    exact h ⟨k, hk⟩ ⟨j, hj⟩
  · have h : ∀ i k j : Fin 1, decide (sl w1L i = made (sl w1L k ++ sl w1L j)) = decide ((i : Nat) = ixP w1L k j) := by decide +kernel
    exact h ⟨i, hi⟩ ⟨k, hk⟩ ⟨j, hj⟩
theorem freeOk2 : FreeOk w2L := by
  refine ⟨by decide, fun k hk => ?_, fun k j hk hj => ?_, fun i k j hi hk hj => ?_⟩
  · have h : ∀ k : Fin 6, (okW (sl w2L k) && decide ((sl w2L k).length ≤ 4)) = true := by decide +kernel
    simpa using h ⟨k, hk⟩
  · have h : ∀ k j : Fin 6, ixP w2L k j < 6 := by decide +kernel
    exact h ⟨k, hk⟩ ⟨j, hj⟩
  · have h : ∀ i k j : Fin 6, decide (sl w2L i = made (sl w2L k ++ sl w2L j)) = decide ((i : Nat) = ixP w2L k j) := by decide +kernel
    exact h ⟨i, hi⟩ ⟨k, hk⟩ ⟨j, hj⟩
theorem freeOk {m : Int} (h : (decide (1 ≤ m) && decide (m ≤ 2)) = true) : FreeOk (allW m) := by
  rw [Bool.and_eq_true, decide_eq_true_iff, decide_eq_true_iff] at h
  obtain rfl | rfl : m = 1 ∨ m = 2 := by omega
  · rw [allW_one]; exact freeOk1
  · rw [allW_two]; exact freeOk2
theorem rw_rowsX {L : List (List UInt8)} {k i : Nat} (h : i < k) : rw_ (rowsX L k) i = rowX L i L.length := by simp [rowsX, rw_, List.getD, h]
theorem el_rowX {L : List (List UInt8)} {k i j : Nat} (h : i < j) : el (rowX L k j) i = ((ixP L k i : Nat) : Int) := by simp [rowX, el, List.getD, h]
end Go.Proofs.Ythllbekoidogpaa

namespace Go.Proofs.Ythllbekoidogpaa
set_option linter.unusedVariables false

/-- The table of the words of two letters. -/
def f2L : List (List Int) := [[0, 1, 2, 1, 1, 2], [2, 1, 2, 1, 1, 2], [2, 1, 2, 1, 1, 2], [5, 4, 5, 3, 4, 5], [5, 4, 5, 4, 4, 5], [5, 4, 5, 4, 4, 5]]
theorem freeT_two : freeT 2 = f2L := by decide +kernel
theorem f2_tab : IsT f2L := okT_iff.1 (by decide +kernel)
theorem f2_band : bandT f2L = true := by
  refine bandT_iff.2 ⟨grpT_iff.1 (grpT_all f2_tab fun x hx y hy z hz => ?_), fun x x0 x1 => ?_⟩
  · have h : ∀ x y z : Fin 6, assoc f2L (x : Nat) (y : Nat) (z : Nat) = true := by decide +kernel
    exact h ⟨x, hx⟩ ⟨y, hy⟩ ⟨z, hz⟩
  · have h : ∀ x : Fin 6, mul f2L ((x : Nat) : Int) ((x : Nat) : Int) = ((x : Nat) : Int) := by decide +kernel
    obtain ⟨n, rfl⟩ : ∃ n : Nat, x = n := ⟨x.toNat, by omega⟩
    exact h ⟨n, by have : f2L.length = 6 := rfl; omega⟩
end Go.Proofs.Ythllbekoidogpaa

namespace Go.Proofs.Ythllbekoidogpaa
set_option linter.unusedVariables false

section
variable {T U : List (List Int)} {u v : List UInt8}
theorem canA_words {S : List (List Int)} (hk : okT S = true) (hu : okW u = true) (hv : okW v = true) : canA S u v = true := canA_iff.2 ⟨hk, hu, hv⟩
theorem hldW_false (h : canA T u v = false) : hldW T u v = false := by unfold hldW; rw [h]; rfl
/-- Words that are the same have the same value in bands. -/
theorem hldW_same (b : IsB T) (hu : okW u = true) (hv : okW v = true) (s : Same u v) : hldW T u v = true :=
  hld_iff.2 ⟨canA_words (okT_iff.2 b.g.tab) hu hv, fun a c d ha hc hd => vw_same b (sta_th ha hc hd) s⟩
end
/-- The table of words tells words of two letters. -/
theorem g2_rows : f2L = rowsX w2L 6 := by decide +kernel
theorem g2_at {k j : Nat} (hk : k < 6) (hj : j < 6) : mul f2L (k : Int) (j : Int) = ((ixP w2L k j : Nat) : Int) := by
  unfold mul
  rw [Int.toNat_natCast, Int.toNat_natCast, g2_rows, rw_rowsX hk]
  exact el_rowX hj
theorem two_value {z : Int} : ∀ (r : List UInt8) (k : Nat) (u : List UInt8), k < 6 → Same (sl w2L k) u → (∀ y, y ∈ r → y = 97 ∨ y = 98) → ∃ i, i < 6 ∧ Same (sl w2L i) (u ++ r) ∧ (r.map (ltf 0 3 z)).foldl (mul f2L) (k : Int) = (i : Int)
  | [], k, u, hk, hs, _ => ⟨k, hk, by simpa using hs, rfl⟩
  | y :: r, k, u, hk, hs, hr => by
    obtain ⟨j, hj, sj, ej⟩ : ∃ j : Nat, j < 6 ∧ sl w2L j = [y] ∧ ltf 0 3 z y = (j : Int) := by
      rcases hr y (by simp) with rfl | rfl
      · exact ⟨0, by omega, rfl, rfl⟩
      · exact ⟨3, by omega, rfl, rfl⟩
    have F := freeOk2
    have hi := F.ix k j hk hj
    have e : sl w2L (ixP w2L k j) = made (sl w2L k ++ sl w2L j) := of_decide_eq_true ((F.uniq _ k j hi hk hj).trans (decide_eq_true rfl))
    have hs2 : Same (sl w2L (ixP w2L k j)) (u ++ [y]) := by
      rw [e, sj]
      exact (same_made _).trans (hs.right [y])
    obtain ⟨i, hi6, si, ei⟩ := two_value r (ixP w2L k j) (u ++ [y]) hi hs2 (fun q hq => hr q (by simp [hq]))
    refine ⟨i, hi6, by simpa using si, ?_⟩
    rw [List.map_cons, List.foldl_cons, ej, g2_at hk hj]
    exact ei
theorem two_words {u : List UInt8} (hu : u ≠ []) (h : ∀ y, y ∈ u → y = 97 ∨ y = 98) (z : Int) : ∃ i : Nat, i < 6 ∧ Same (sl w2L i) u ∧ vw f2L (ltf 0 3 z) u = (i : Int) := by
  cases u with
  | nil => exact (hu rfl).elim
  | cons y r =>
    obtain ⟨j, hj, sj, ej⟩ : ∃ j : Nat, j < 6 ∧ sl w2L j = [y] ∧ ltf 0 3 z y = (j : Int) := by
      rcases h y (by simp) with rfl | rfl
      · exact ⟨0, by omega, rfl, rfl⟩
      · exact ⟨3, by omega, rfl, rfl⟩
    obtain ⟨i, hi, si, ei⟩ := two_value (z := z) r j [y] hj (by rw [sj]; exact Same.refl _) (fun q hq => h q (by simp [hq]))
    refine ⟨i, hi, by simpa using si, ?_⟩
    unfold vw pr
    rw [List.map_cons, ej]
    exact ei
theorem two_same {u v : List UInt8} (hu : u ≠ []) (hv : v ≠ []) (h1 : ∀ y, y ∈ u → y = 97 ∨ y = 98) (h2 : ∀ y, y ∈ v → y = 97 ∨ y = 98) (h : Hld f2L u v) : Same u v := by
  obtain ⟨i, _, si, ei⟩ := two_words hu h1 0
  obtain ⟨j, _, sj, ej⟩ := two_words hv h2 0
  have := h 0 3 0 ⟨by decide, by decide⟩ ⟨by decide, by decide⟩ ⟨by decide, by decide⟩
  rw [ei, ej] at this
  obtain rfl : i = j := by omega
  exact si.symm.trans sj
end Go.Proofs.Ythllbekoidogpaa
