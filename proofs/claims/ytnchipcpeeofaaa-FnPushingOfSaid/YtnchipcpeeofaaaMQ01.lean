/-  -/
import Derived.WalkKit
import Derived.Deep.OwnRows
import Derived.Deep.Draws
namespace Go.Proofs.Ytnchipcpeeofaaa
set_option linter.unusedVariables false
open Go.RowKit

/-- Only blocks from lo on, below hi, and new blocks may have turned. -/
structure Only (lo hi : Nat) (w w' : World) : Prop where
  os : w'.os = w.os
  tape : w'.tape = w.tape
  output : w'.output = w.output
  size : w.heap.size ≤ w'.heap.size
  block : ∀ k, k < w.heap.size → (k < lo ∨ hi ≤ k) → w'.heap[k]? = w.heap[k]?

theorem Only.of_below {B hi : Nat} {w w' : World} (h : Below w.heap.size w w') : Only B hi w w' := ⟨h.os, h.tape, h.output, h.size, fun k hk _ => h.block k hk⟩
theorem Only.below {lo hi B : Nat} {w w' : World} (h : Only lo hi w w') (hB : B ≤ lo) (hs : B ≤ w.heap.size) : Below B w w' := ⟨h.os, h.tape, h.output, h.size, fun k hk => h.block k (by omega) (.inl (by omega))⟩
theorem Only.trans {lo hi : Nat} {a b c : World} (h : Only lo hi a b) (k : Only lo hi b c) : Only lo hi a c :=
  ⟨k.os.trans h.os, k.tape.trans h.tape, k.output.trans h.output, Nat.le_trans h.size k.size, fun i hi ho => (k.block i (Nat.lt_of_lt_of_le hi h.size) ho).trans (h.block i hi ho)⟩
theorem Only.refl (lo hi : Nat) (w : World) : Only lo hi w w := ⟨rfl, rfl, rfl, Nat.le_refl _, fun _ _ _ => rfl⟩
theorem Only.drewN {lo hi : Nat} {w w' : World} (h : Only lo hi w w') (n : Nat) : Only lo hi w (w'.drewN n) := ⟨h.os, h.tape, h.output, h.size, h.block⟩
theorem Only.setCell {lo hi : Nat} {w w' : World} (h : Only lo hi w w') {p : Addr} (h1 : lo ≤ p.block) (h2 : p.block < hi) (u : Value) : Only lo hi w (w'.setCell p u) :=
  ⟨h.os, h.tape, h.output, by simpa [World.setCell] using h.size, fun k hk ho => (Below.heap_setCell _ _ _ _ (by omega)).trans (h.block k hk ho)⟩
theorem Only.mono {lo hi lo' hi' : Nat} {w w' : World} (h : Only lo hi w w') (h1 : lo' ≤ lo) (h2 : hi ≤ hi') : Only lo' hi' w w' := ⟨h.os, h.tape, h.output, h.size, fun k hk ho => h.block k hk (by omega)⟩

theorem Below.drewN_ {B : Nat} {a w : World} (h : Below B a w) (n : Nat) : Below B a (w.drewN n) := ⟨h.os, h.tape, h.output, h.size, h.block⟩
theorem below_drewN {B : Nat} {w : World} (n : Nat) : Below B w (w.drewN n) := Below.drewN_ (Below.refl _ _) n

/-- The j-th number of a row; the i-th row of a table: names of our own, so that the walk's simp leaves them alone. -/
def el (xs : List Int) (j : Nat) : Int := xs.getD j 0
def rw_ (T : List (List Int)) (i : Nat) : List Int := T.getD i []

/-- A row of integers in blocks from lo on, below hi. -/
def Row (w : World) (lo hi : Nat) (A : Option Addr) (xs : List Int) : Prop :=
  ∀ j, j < xs.length → ∃ b o, A = some ⟨b, o, none⟩ ∧ lo ≤ b ∧ b < hi ∧ w.cell? ⟨b, o + j, none⟩ = some (.int .i64 (el xs j))

/-- A table of rows. -/
def Mat (w : World) (lo hi : Nat) (A : Option Addr) (T : List (List Int)) : Prop :=
  ∀ i, i < T.length → ∃ b o A' c, A = some ⟨b, o, none⟩ ∧ lo ≤ b ∧ b < hi ∧ w.cell? ⟨b, o + i, none⟩ = some (.slice A' (rw_ T i).length c) ∧ Row w lo hi A' (rw_ T i)

/-- A row of the call's own, from the head of block g. -/
def Cells (w : World) (g : Nat) (xs : List Int) : Prop :=
  ∀ j, j < xs.length → w.cell? ⟨g, j, none⟩ = some (.int .i64 (el xs j)) ∧ w.frozen? ⟨g, j, none⟩ = false

/-- A table of the call's own: each row in a block of its own. -/
def OMat (w : World) (lo hi : Nat) (A : Option Addr) (T : List (List Int)) : Prop :=
  ∃ (b o : Nat) (g C : Nat → Nat), (∀ i, i < T.length → A = some ⟨b, o, none⟩ ∧ lo ≤ b ∧ b < hi ∧ g i ≠ b ∧ lo ≤ g i ∧ g i < hi ∧
    w.cell? ⟨b, o + i, none⟩ = some (.slice (some ⟨g i, 0, none⟩) (rw_ T i).length (C i)) ∧ Cells w (g i) (rw_ T i)) ∧ ∀ i j, i < T.length → j < T.length → i ≠ j → g i ≠ g j

section
variable {w w' : World} {lo hi : Nat} {A : Option Addr} {xs : List Int} {T : List (List Int)}

theorem Row.keep (h : Row w lo hi A xs) (hk : ∀ k, lo ≤ k → k < hi → w'.heap[k]? = w.heap[k]?) : Row w' lo hi A xs := fun j hj => by
  obtain ⟨b, o, e, h1, h2, hc⟩ := h j hj
  exact ⟨b, o, e, h1, h2, (World.cell?_of_block (w := w) (hk b h1 h2)).trans hc⟩
theorem Mat.keep (h : Mat w lo hi A T) (hk : ∀ k, lo ≤ k → k < hi → w'.heap[k]? = w.heap[k]?) : Mat w' lo hi A T := fun i hi' => by
  obtain ⟨b, o, A', c, e, h1, h2, hc, hr⟩ := h i hi'
  exact ⟨b, o, A', c, e, h1, h2, (World.cell?_of_block (w := w) (hk b h1 h2)).trans hc, hr.keep hk⟩
theorem Cells.keep {g : Nat} (h : Cells w g xs) (hk : w'.heap[g]? = w.heap[g]?) : Cells w' g xs := fun j hj =>
  ⟨(World.cell?_of_block (w := w) hk).trans (h j hj).1, (World.frozen?_of_block (w := w) hk).trans (h j hj).2⟩
theorem OMat.keep (h : OMat w lo hi A T) (hk : ∀ k, lo ≤ k → k < hi → w'.heap[k]? = w.heap[k]?) : OMat w' lo hi A T := by
  obtain ⟨b, o, g, C, h1, h2⟩ := h
  refine ⟨b, o, g, C, fun i hi' => ?_, h2⟩
  obtain ⟨e, a1, a2, a3, a4, a5, a6, a7⟩ := h1 i hi'
  exact ⟨e, a1, a2, a3, a4, a5, (World.cell?_of_block (w := w) (hk b a1 a2)).trans a6, a7.keep (hk _ a4 a5)⟩
theorem Row.mono (h : Row w lo hi A xs) {lo' hi' : Nat} (h1 : lo' ≤ lo) (h2 : hi ≤ hi') : Row w lo' hi' A xs := fun j hj => by
  obtain ⟨b, o, e, a1, a2, hc⟩ := h j hj
  exact ⟨b, o, e, by omega, by omega, hc⟩
theorem Mat.mono (h : Mat w lo hi A T) {lo' hi' : Nat} (h1 : lo' ≤ lo) (h2 : hi ≤ hi') : Mat w lo' hi' A T := fun i hi' => by
  obtain ⟨b, o, A', c, e, a1, a2, hc, hr⟩ := h i hi'
  exact ⟨b, o, A', c, e, by omega, by omega, hc, hr.mono h1 h2⟩
theorem OMat.mono (h : OMat w lo hi A T) {lo' hi' : Nat} (h1 : lo' ≤ lo) (h2 : hi ≤ hi') : OMat w lo' hi' A T := by
  obtain ⟨b, o, g, C, h3, h4⟩ := h
  refine ⟨b, o, g, C, fun i hi' => ?_, h4⟩
  obtain ⟨e, a1, a2, a3, a4, a5, a6, a7⟩ := h3 i hi'
  exact ⟨e, by omega, by omega, a3, by omega, by omega, a6, a7⟩
theorem Row.below {B : Nat} (h : Row w lo hi A xs) (hb : Below B w w') (hB : hi ≤ B) : Row w' lo hi A xs := h.keep fun k _ hk => hb.block k (by omega)
theorem Mat.below {B : Nat} (h : Mat w lo hi A T) (hb : Below B w w') (hB : hi ≤ B) : Mat w' lo hi A T := h.keep fun k _ hk => hb.block k (by omega)
theorem OMat.below {B : Nat} (h : OMat w lo hi A T) (hb : Below B w w') (hB : hi ≤ B) : OMat w' lo hi A T := h.keep fun k _ hk => hb.block k (by omega)
theorem Cells.below {B g : Nat} (h : Cells w g xs) (hb : Below B w w') (hB : g < B) : Cells w' g xs := h.keep (hb.block g (by omega))
theorem Row.only {lo' hi' : Nat} (h : Row w lo hi A xs) (hb : Only lo' hi' w w') (hs : hi ≤ w.heap.size) (hd : hi ≤ lo' ∨ hi' ≤ lo) : Row w' lo hi A xs := h.keep fun k h1 h2 => hb.block k (by omega) (by omega)
theorem Mat.only {lo' hi' : Nat} (h : Mat w lo hi A T) (hb : Only lo' hi' w w') (hs : hi ≤ w.heap.size) (hd : hi ≤ lo' ∨ hi' ≤ lo) : Mat w' lo hi A T := h.keep fun k h1 h2 => hb.block k (by omega) (by omega)
theorem OMat.only {lo' hi' : Nat} (h : OMat w lo hi A T) (hb : Only lo' hi' w w') (hs : hi ≤ w.heap.size) (hd : hi ≤ lo' ∨ hi' ≤ lo) : OMat w' lo hi A T := h.keep fun k h1 h2 => hb.block k (by omega) (by omega)
theorem Row.drewN (h : Row w lo hi A xs) (n : Nat) : Row (w.drewN n) lo hi A xs := h
theorem Mat.drewN (h : Mat w lo hi A T) (n : Nat) : Mat (w.drewN n) lo hi A T := h
theorem OMat.drewN (h : OMat w lo hi A T) (n : Nat) : OMat (w.drewN n) lo hi A T := h
theorem Row.nil (w : World) (lo hi : Nat) (A : Option Addr) : Row w lo hi A [] := fun _ hj => absurd hj (Nat.not_lt_zero _)
theorem Mat.nil (w : World) (lo hi : Nat) (A : Option Addr) : Mat w lo hi A [] := fun _ hj => absurd hj (Nat.not_lt_zero _)
theorem OMat.nil (w : World) (lo hi : Nat) (A : Option Addr) : OMat w lo hi A [] := ⟨0, 0, id, id, fun _ hj => absurd hj (Nat.not_lt_zero _), fun _ _ hj _ _ => absurd hj (Nat.not_lt_zero _)⟩

theorem Cells.row {g : Nat} (h : Cells w g xs) (h1 : lo ≤ g) (h2 : g < hi) : Row w lo hi (some ⟨g, 0, none⟩) xs := fun j hj => ⟨g, 0, rfl, h1, h2, by simpa using (h j hj).1⟩
theorem OMat.mat (h : OMat w lo hi A T) : Mat w lo hi A T := by
  obtain ⟨b, o, g, C, h1, _⟩ := h
  intro i hi'
  obtain ⟨e, a1, a2, _, a4, a5, a6, a7⟩ := h1 i hi'
  exact ⟨b, o, _, _, e, a1, a2, a6, a7.row a4 a5⟩
theorem Cells.of_rowIs {g t n : Nat} {f : Nat → Value} (h : w.rowIs g t n f) (hn : xs.length ≤ n) (hf : ∀ j, j < xs.length → f j = .int .i64 (el xs j)) : Cells w g xs := fun j hj => ⟨(h.cell (i := j) (by omega)).trans (by rw [hf j hj]), h.frozen j⟩
end

/-- w' is w after some draws. -/
def QD (w w' : World) : Prop := ∃ n, w' = w.drewN n
theorem QD.refl (w : World) : QD w w := ⟨0, rfl⟩
theorem QD.drewN {w w' : World} (h : QD w w') (n : Nat) : QD w (w'.drewN n) := by
  obtain ⟨m, rfl⟩ := h
  exact ⟨m + n, by rw [World.drewN_drewN]⟩
theorem QD.drew {w w' : World} (h : QD w w') : QD w w'.drew := h.drewN 1
theorem QD.heap {w w' : World} (h : QD w w') : w'.heap = w.heap := by
  obtain ⟨m, rfl⟩ := h
  rfl
theorem QD.trans {a b c : World} (h : QD a b) (k : QD b c) : QD a c := by
  obtain ⟨m, rfl⟩ := k
  exact h.drewN m
theorem QD.below {w w' : World} (h : QD w w') (B : Nat) : Below B w w' := by
  obtain ⟨m, rfl⟩ := h
  exact below_drewN m
theorem Row.quiet {w w' : World} {lo hi : Nat} {A : Option Addr} {xs : List Int} (h : Row w lo hi A xs) (q : QD w w') : Row w' lo hi A xs := h.keep fun k _ _ => by rw [q.heap]
theorem Mat.quiet {w w' : World} {lo hi : Nat} {A : Option Addr} {T : List (List Int)} (h : Mat w lo hi A T) (q : QD w w') : Mat w' lo hi A T := h.keep fun k _ _ => by rw [q.heap]
theorem OMat.quiet {w w' : World} {lo hi : Nat} {A : Option Addr} {T : List (List Int)} (h : OMat w lo hi A T) (q : QD w w') : OMat w' lo hi A T := h.keep fun k _ _ => by rw [q.heap]
/-- A contract that only draws, offered at a call inside a region that reads. -/
theorem quiet_at {P : Program} {f : FuncId} {args : Array Value} {w : World} {a : Nat} {v : Value} (h : Calls P f args (w.drewN a) fun e w' => e = .returned v ∧ QD (w.drewN a) w') :
    Calls P f args (w.drewN a) fun e w'' => e = .returned v ∧ ∃ m, w'' = w.drewN m :=
  h.mono fun _ _ ⟨he, m, hm⟩ => ⟨he, a + m, by rw [hm, World.drewN_drewN]⟩
/-- All lengths are small. -/
structure Small (T : List (List Int)) : Prop where
  len : T.length ≤ 1048576
  row : ∀ i, i < T.length → (rw_ T i).length ≤ 1048576

/-- All lengths are lengths. -/
structure Sized (T : List (List Int)) : Prop where
  len : T.length ≤ 9223372036854775807
  row : ∀ i, i < T.length → (rw_ T i).length ≤ 9223372036854775807
theorem hide {p : Prop} (h : p) : Hid p := h
theorem ret_int {k : IntKind} {a b : Int} (h : a = b) : Ending.returned (.int k a) = .returned (.int k b) := by rw [h]
theorem ret_bool {a b : Bool} (h : a = b) : Ending.returned (.bool a) = .returned (.bool b) := by rw [h]
theorem maxLen_is : maxLen = 9223372036854775807 := rfl

end Go.Proofs.Ytnchipcpeeofaaa

namespace Go.Proofs.Ytnchipcpeeofaaa
set_option linter.unusedVariables false

def okRow (n : Nat) (xs : List Int) : Bool := xs.all fun x => decide (0 ≤ x) && decide (x < n)
def okT (T : List (List Int)) : Bool := decide (1 ≤ T.length) && decide (T.length ≤ 9) && T.all fun r => decide (r.length = T.length) && okRow T.length r

/-- A table of n things, told by its indices. -/
structure IsT (T : List (List Int)) : Prop where
  lo : 1 ≤ T.length
  hi : T.length ≤ 9
  len : ∀ i, i < T.length → (rw_ T i).length = T.length
  cell : ∀ i j, i < T.length → j < T.length → 0 ≤ el (rw_ T i) j ∧ el (rw_ T i) j < T.length

theorem el_eq {xs : List Int} {j : Nat} (h : j < xs.length) : el xs j = xs[j] := by simp [el, List.getD, h]
theorem rw_eq {T : List (List Int)} {j : Nat} (h : j < T.length) : rw_ T j = T[j] := by simp [rw_, List.getD, h]

theorem okRow_iff {n : Nat} {xs : List Int} : okRow n xs = true ↔ ∀ j, j < xs.length → 0 ≤ el xs j ∧ el xs j < n := by
  unfold okRow
  rw [List.all_eq_true]
  constructor
  · intro h j hj
    have := h _ (List.getElem_mem hj)
    rw [el_eq hj]
    simpa using this
  · intro h x hx
    obtain ⟨j, hj, rfl⟩ := List.getElem_of_mem hx
    have := h j hj
    rw [el_eq hj] at this
    simpa using this
theorem okRow_false {n j : Nat} {xs : List Int} (hj : j < xs.length) (h : el xs j < 0 ∨ (n : Int) ≤ el xs j) : okRow n xs = false := by
  cases e : okRow n xs with
  | false => rfl
  | true => have := okRow_iff.1 e j hj; omega
theorem okT_iff {T : List (List Int)} : okT T = true ↔ IsT T := by
  unfold okT
  rw [Bool.and_eq_true, Bool.and_eq_true, List.all_eq_true, decide_eq_true_iff, decide_eq_true_iff]
  constructor
  · rintro ⟨⟨h1, h2⟩, h⟩
    have hrow : ∀ i, i < T.length → (rw_ T i).length = T.length ∧ okRow T.length (rw_ T i) = true := fun i hi => by
      have := h _ (List.getElem_mem hi)
      rw [rw_eq hi]
      simpa using this
    exact ⟨h1, h2, fun i hi => (hrow i hi).1, fun i j hi hj => okRow_iff.1 (hrow i hi).2 j (by rw [(hrow i hi).1]; exact hj)⟩
  · rintro ⟨h1, h2, h3, h4⟩
    refine ⟨⟨h1, h2⟩, fun r hr => ?_⟩
    obtain ⟨i, hi, rfl⟩ := List.getElem_of_mem hr
    have e := h3 i hi
    have c := h4 i
    rw [rw_eq hi] at e c
    rw [Bool.and_eq_true, decide_eq_true_iff]
    exact ⟨e, okRow_iff.2 fun j hj => c j hi (by omega)⟩
theorem okT_false {T : List (List Int)} (h : ¬ IsT T) : okT T = false := by
  cases e : okT T with
  | false => rfl
  | true => exact absurd (okT_iff.1 e) h
theorem okT_size {T : List (List Int)} (h : T.length < 1 ∨ 9 < T.length) : okT T = false := okT_false fun k => by have := k.lo; have := k.hi; omega
theorem okT_len {T : List (List Int)} {i : Nat} (hi : i < T.length) (h : (rw_ T i).length ≠ T.length) : okT T = false := okT_false fun k => h (k.len i hi)
theorem okT_row {T : List (List Int)} {i : Nat} (hi : i < T.length) (h : okRow T.length (rw_ T i) = false) : okT T = false := okT_false fun k => by
  have : okRow T.length (rw_ T i) = true := okRow_iff.2 fun j hj => k.cell i j hi (by rw [← k.len i hi]; exact hj)
  rw [h] at this; cases this
theorem okT_cell {T : List (List Int)} {i j : Nat} (hi : i < T.length) (hj : j < (rw_ T i).length) (h : el (rw_ T i) j < 0 ∨ (T.length : Int) ≤ el (rw_ T i) j) : okT T = false := okT_row hi (okRow_false hj h)

/-- The product of two things, told by their numbers. -/
def mul (T : List (List Int)) (x y : Int) : Int := el (rw_ T x.toNat) y.toNat
theorem IsT.mul {T : List (List Int)} (h : IsT T) {x y : Int} (hx0 : 0 ≤ x) (hx1 : x < T.length) (hy0 : 0 ≤ y) (hy1 : y < T.length) : 0 ≤ mul T x y ∧ mul T x y < T.length := h.cell _ _ (by omega) (by omega)
theorem IsT.small {T : List (List Int)} (h : IsT T) : Small T := ⟨by have := h.hi; omega, fun i hi => by rw [h.len i hi]; have := h.hi; omega⟩

/-- Whether brackets matter at three things. -/
def assoc (T : List (List Int)) (x y z : Int) : Bool := mul T x (mul T y z) == mul T (mul T x y) z
theorem assoc_iff {T : List (List Int)} {x y z : Int} : assoc T x y z = true ↔ mul T x (mul T y z) = mul T (mul T x y) z := by unfold assoc; simp
/-- A table in which brackets do not matter. -/
structure IsG (T : List (List Int)) : Prop where
  tab : IsT T
  grp : ∀ x y z : Int, 0 ≤ x → x < T.length → 0 ≤ y → y < T.length → 0 ≤ z → z < T.length → mul T x (mul T y z) = mul T (mul T x y) z
noncomputable def grpT (T : List (List Int)) : Bool := @decide (IsG T) (Classical.propDecidable _)
theorem grpT_iff {T : List (List Int)} : grpT T = true ↔ IsG T := by unfold grpT; exact @decide_eq_true_iff _ (Classical.propDecidable _)
theorem grpT_false {T : List (List Int)} (h : ¬ IsG T) : grpT T = false := by
  cases e : grpT T with
  | false => rfl
  | true => exact absurd (grpT_iff.1 e) h
theorem grpT_not {T : List (List Int)} (h : okT T = false) : grpT T = false := grpT_false fun k => by rw [okT_iff.2 k.tab] at h; cases h
theorem grpT_at {T : List (List Int)} {x y z : Int} (hx0 : 0 ≤ x) (hx1 : x < T.length) (hy0 : 0 ≤ y) (hy1 : y < T.length) (hz0 : 0 ≤ z) (hz1 : z < T.length) (h : assoc T x y z = false) : grpT T = false :=
  grpT_false fun k => by rw [assoc_iff.2 (k.grp x y z hx0 hx1 hy0 hy1 hz0 hz1)] at h; cases h
theorem grpT_all {T : List (List Int)} (k : IsT T) (h : ∀ x, x < T.length → ∀ y, y < T.length → ∀ z, z < T.length → assoc T (x : Nat) (y : Nat) (z : Nat) = true) : grpT T = true :=
  grpT_iff.2 ⟨k, fun x y z hx0 hx1 hy0 hy1 hz0 hz1 => by
    have := assoc_iff.1 (h x.toNat (by omega) y.toNat (by omega) z.toNat (by omega))
    rwa [Int.toNat_of_nonneg hx0, Int.toNat_of_nonneg hy0, Int.toNat_of_nonneg hz0] at this⟩

/-- Three things, counted as one number. -/
def atK (T : List (List Int)) (k : Nat) : Bool := assoc T (k / T.length / T.length : Nat) (k / T.length % T.length : Nat) (k % T.length : Nat)
theorem three_lt {n k : Nat} (h0 : 0 < n) (hk : k < n * n * n) : k / n / n < n ∧ k / n % n < n ∧ k % n < n :=
  ⟨by rw [Nat.div_div_eq_div_mul]; exact Nat.div_lt_of_lt_mul hk, Nat.mod_lt _ h0, Nat.mod_lt _ h0⟩
theorem three_of {n x y z : Nat} (hx : x < n) (hy : y < n) (hz : z < n) : (x * n + y) * n + z < n * n * n ∧ ((x * n + y) * n + z) / n / n = x ∧ ((x * n + y) * n + z) / n % n = y ∧ ((x * n + y) * n + z) % n = z := by
  have h0 : 0 < n := by omega
  have e1 : ((x * n + y) * n + z) / n = x * n + y := by rw [Nat.mul_comm, Nat.mul_add_div h0, Nat.div_eq_of_lt hz, Nat.add_zero]
  have e2 : ((x * n + y) * n + z) % n = z := by rw [Nat.mul_comm, Nat.mul_add_mod, Nat.mod_eq_of_lt hz]
  refine ⟨?_, ?_, ?_, e2⟩
  · have h1 : x * n + y < n * n := by
      have : (x + 1) * n ≤ n * n := Nat.mul_le_mul_right _ (by omega)
      rw [Nat.succ_mul] at this; omega
    have : (x * n + y + 1) * n ≤ n * n * n := Nat.mul_le_mul_right _ (by omega)
    rw [Nat.succ_mul] at this; omega
  · rw [e1, Nat.mul_comm, Nat.mul_add_div h0, Nat.div_eq_of_lt hy, Nat.add_zero]
  · rw [e1, Nat.mul_comm, Nat.mul_add_mod, Nat.mod_eq_of_lt hy]
theorem grpT_kall {T : List (List Int)} (k : IsT T) (h : ∀ j, j < T.length * T.length * T.length → atK T j = true) : grpT T = true :=
  grpT_all k fun x hx y hy z hz => by
    obtain ⟨h1, h2, h3, h4⟩ := three_of hx hy hz
    have := h _ h1
    unfold atK at this
    rwa [h2, h3, h4] at this
theorem grpT_kat {T : List (List Int)} (k : IsT T) {j : Nat} (hj : j < T.length * T.length * T.length) (h : atK T j = false) : grpT T = false := by
  obtain ⟨h1, h2, h3⟩ := three_lt (by have := k.lo; omega) hj
  exact grpT_at (Int.natCast_nonneg _) (Int.ofNat_lt.2 h1) (Int.natCast_nonneg _) (Int.ofNat_lt.2 h2) (Int.natCast_nonneg _) (Int.ofNat_lt.2 h3) h
theorem sq_le {n : Nat} (h : n ≤ 9) : n * n ≤ 81 ∧ n * n * n ≤ 729 := by
  have h2 : n * n ≤ 9 * 9 := Nat.mul_le_mul h h
  exact ⟨h2, Nat.mul_le_mul h2 h⟩
theorem sq_int {n : Nat} (h : n ≤ 9) : (0 ≤ (n : Int) * (n : Int) ∧ (n : Int) * (n : Int) ≤ 81) ∧ 0 ≤ (n : Int) * (n : Int) * (n : Int) ∧ (n : Int) * (n : Int) * (n : Int) ≤ 729 := by
  obtain ⟨h2, h3⟩ := sq_le h
  have e2 : (n : Int) * (n : Int) = ((n * n : Nat) : Int) := by simp
  have e3 : (n : Int) * (n : Int) * (n : Int) = ((n * n * n : Nat) : Int) := by simp
  rw [e2, ← e2, e3] 
  omega

theorem div_int (p n : Nat) : (p : Int) / (n : Int) = ((p / n : Nat) : Int) := by simp
theorem mod_int (p n : Nat) : (p : Int) % (n : Int) = ((p % n : Nat) : Int) := by simp
theorem three_int {n p : Nat} (h0 : 1 ≤ n) (h9 : n ≤ 9) (hp : p < n * n * n) :
    (0 ≤ (p : Int) / (n : Int) ∧ (p : Int) / (n : Int) ≤ 729) ∧ (0 ≤ (p : Int) / (n : Int) / (n : Int) ∧ (p : Int) / (n : Int) / (n : Int) < n) ∧ (0 ≤ (p : Int) / (n : Int) % (n : Int) ∧ (p : Int) / (n : Int) % (n : Int) < n) ∧ (0 ≤ (p : Int) % (n : Int) ∧ (p : Int) % (n : Int) < n) := by
  obtain ⟨h1, h2, h3⟩ := three_lt (by omega) hp
  have h4 := (sq_le h9).2
  have h5 : p / n ≤ p := Nat.div_le_self _ _
  have h6 : p ≤ 729 := by omega
  rw [div_int, div_int, mod_int, mod_int]
  exact ⟨⟨Int.natCast_nonneg _, Int.ofNat_le.2 (Nat.le_trans h5 h6)⟩, ⟨Int.natCast_nonneg _, Int.ofNat_lt.2 h1⟩, ⟨Int.natCast_nonneg _, Int.ofNat_lt.2 h2⟩, Int.natCast_nonneg _, Int.ofNat_lt.2 h3⟩
end Go.Proofs.Ytnchipcpeeofaaa

namespace Go.Proofs.Ytnchipcpeeofaaa
set_option linter.unusedVariables false

/-- The head h of a word and its letter x. -/
structure HdIs (u h : List UInt8) (x : UInt8) : Prop where
  ex : ∃ r, u = h ++ x :: r ∧ ∀ y, y ∈ r → y ∈ h ∨ y = x
  new : x ∉ h
/-- The tail t of a word and its letter x. -/
structure TlIs (u : List UInt8) (x : UInt8) (t : List UInt8) : Prop where
  ex : ∃ r, u = r ++ x :: t ∧ ∀ y, y ∈ r → y ∈ t ∨ y = x
  new : x ∉ t
section
variable {u v h h' t t' w : List UInt8} {x x' y z : UInt8}
theorem HdIs.mem (k : HdIs u h x) {y : UInt8} : y ∈ u ↔ y ∈ h ∨ y = x := by
  obtain ⟨r, rfl, hr⟩ := k.ex
  rw [List.mem_append, List.mem_cons]
  constructor
  · rintro (h | h | h)
    · exact .inl h
    · exact .inr h
    · exact hr y h
  · rintro (h | h)
    · exact .inl h
    · exact .inr (.inl h)
theorem TlIs.mem (k : TlIs u x t) {y : UInt8} : y ∈ u ↔ y ∈ t ∨ y = x := by
  obtain ⟨r, rfl, hr⟩ := k.ex
  rw [List.mem_append, List.mem_cons]
  constructor
  · rintro (h | h | h)
    · exact hr y h
    · exact .inr h
    · exact .inl h
  · rintro (h | h)
    · exact .inr (.inr h)
    · exact .inr (.inl h)
theorem HdIs.rev : HdIs u h x ↔ TlIs u.reverse x h.reverse := by
  constructor
  · rintro ⟨⟨r, rfl, hr⟩, hn⟩
    exact ⟨⟨r.reverse, by simp, fun y hy => by simpa using hr y (by simpa using hy)⟩, by simpa using hn⟩
  · rintro ⟨⟨r, e, hr⟩, hn⟩
    refine ⟨⟨r.reverse, ?_, fun y hy => by simpa using hr y (by simpa using hy)⟩, by simpa using hn⟩
    have := congrArg List.reverse e
    simpa using this
theorem TlIs.rev : TlIs u x t ↔ HdIs u.reverse t.reverse x := by
  have := HdIs.rev (u := u.reverse) (h := t.reverse) (x := x)
  rw [List.reverse_reverse, List.reverse_reverse] at this
  exact this.symm
theorem HdIs.unique (k : HdIs u h x) (k' : HdIs u h' x') : h = h' ∧ x = x' := by
  obtain ⟨r, e, hr⟩ := k.ex
  obtain ⟨r', e', hr'⟩ := k'.ex
  have hn := k.new
  have hn' := k'.new
  rw [e] at e'
  rcases List.append_eq_append_iff.1 e' with ⟨a, ha, hb⟩ | ⟨a, ha, hb⟩
  · cases a with
    | nil => simp at ha hb; exact ⟨ha.symm, hb.1⟩
    | cons b a =>
      rw [List.cons_append, List.cons.injEq] at hb
      obtain ⟨rfl, hb⟩ := hb
      subst ha
      have hx' : x' ∈ r := by rw [hb]; simp
      rcases hr x' hx' with hm | hm
      · exact (hn' (by simp [hm])).elim
      · exact (hn' (by simp [hm])).elim
  · cases a with
    | nil => simp at ha hb; exact ⟨ha, hb.1.symm⟩
    | cons b a =>
      rw [List.cons_append, List.cons.injEq] at hb
      obtain ⟨rfl, hb⟩ := hb
      subst ha
      have hx' : x ∈ r' := by rw [hb]; simp
      rcases hr' x hx' with hm | hm
      · exact (hn (by simp [hm])).elim
      · exact (hn (by simp [hm])).elim
theorem TlIs.unique (k : TlIs u x t) (k' : TlIs u x' t') : x = x' ∧ t = t' := by
  obtain ⟨e1, e2⟩ := (TlIs.rev.1 k).unique (TlIs.rev.1 k')
  exact ⟨e2, List.reverse_inj.1 e1⟩
theorem HdIs.lt (k : HdIs u h x) : h.length < u.length := by
  obtain ⟨r, rfl, _⟩ := k.ex
  simp
theorem TlIs.lt (k : TlIs u x t) : t.length < u.length := by
  obtain ⟨r, rfl, _⟩ := k.ex
  simp; omega
theorem HdIs.ne (k : HdIs u h x) : u ≠ [] := fun e => by have := k.lt; rw [e] at this; simp at this
/-- One letter more behind a word. -/
theorem HdIs.old (k : HdIs u h x) (hy : y ∈ u) : HdIs (u ++ [y]) h x := by
  have hm := k.mem.1 hy
  obtain ⟨r, rfl, hr⟩ := k.ex
  exact ⟨⟨r ++ [y], by simp, fun z hz => by
    rcases List.mem_append.1 hz with h | h
    · exact hr z h
    · rw [List.mem_singleton.1 h]; exact hm⟩, k.new⟩
/-- A further word behind it. -/
theorem HdIs.more (k : HdIs u h x) (hw : ∀ y, y ∈ w → y ∈ u) : HdIs (u ++ w) h x := by
  have hm := fun y hy => k.mem.1 (hw y hy)
  obtain ⟨r, rfl, hr⟩ := k.ex
  exact ⟨⟨r ++ w, by simp, fun z hz => by
    rcases List.mem_append.1 hz with h | h
    · exact hr z h
    · exact hm z h⟩, k.new⟩
theorem TlIs.more (k : TlIs u x t) (hw : ∀ y, y ∈ w → y ∈ u) : TlIs (w ++ u) x t := by
  rw [TlIs.rev, List.reverse_append]
  exact (TlIs.rev.1 k).more fun y hy => by simpa using hw y (by simpa using hy)
/-- The head, reckoned: behind what was seen already. -/
def scanH : List UInt8 → List UInt8 → Option (List UInt8 × UInt8)
  | _, [] => none
  | seen, x :: r => match scanH (x :: seen) r with
    | some (h, y) => some (x :: h, y)
    | none => if seen.contains x then none else some ([], x)
theorem scanH_none : ∀ {u seen : List UInt8}, scanH seen u = none → ∀ y, y ∈ u → y ∈ seen
  | [], seen, e, y, hy => by cases hy
  | b :: u, seen, e, y, hy => by
    rw [scanH] at e
    split at e
    · cases e
    · next e' =>
      by_cases hc : seen.contains b = true
      · have hb : b ∈ seen := by simpa using hc
        rcases List.mem_cons.1 hy with rfl | hy
        · exact hb
        · rcases List.mem_cons.1 (scanH_none e' y hy) with rfl | h
          · exact hb
          · exact h
      · rw [if_neg hc] at e; cases e
theorem scanH_some : ∀ {u seen h : List UInt8} {x : UInt8}, scanH seen u = some (h, x) → (∃ r, u = h ++ x :: r ∧ ∀ y, y ∈ r → y ∈ seen ∨ y ∈ h ∨ y = x) ∧ x ∉ seen ∧ x ∉ h
  | [], seen, h, x, e => by simp [scanH] at e
  | a :: u, seen, h, x, e => by
    rw [scanH] at e
    split at e
    · next h' y e' =>
      obtain ⟨⟨r, rfl, hr⟩, h1, h2⟩ := scanH_some e'
      simp only [Option.some.injEq, Prod.mk.injEq] at e
      obtain ⟨rfl, rfl⟩ := e
      refine ⟨⟨r, rfl, fun z hz => ?_⟩, fun h => h1 (by simp [h]), fun h => ?_⟩
      · rcases hr z hz with h | h | h
        · rcases List.mem_cons.1 h with h | h
          · exact .inr (.inl (by simp [h]))
          · exact .inl h
        · exact .inr (.inl (by simp [h]))
        · exact .inr (.inr h)
      · rcases List.mem_cons.1 h with h | h
        · exact h1 (by simp [h])
        · exact h2 h
    · next e' =>
      by_cases hc : seen.contains a = true
      · rw [if_pos hc] at e; cases e
      · rw [if_neg hc] at e
        simp only [Option.some.injEq, Prod.mk.injEq] at e
        obtain ⟨rfl, rfl⟩ := e
        refine ⟨⟨u, rfl, fun z hz => ?_⟩, by simpa using hc, by simp⟩
        rcases List.mem_cons.1 (scanH_none e' z hz) with h | h
        · exact .inr (.inr h)
        · exact .inl h
/-- The last letter of w that is not in u, and comes not before it in w. -/
theorem split_new (u w : List UInt8) : (∀ y, y ∈ w → y ∈ u) ∨ ∃ w1 z w2, w = w1 ++ z :: w2 ∧ z ∉ u ∧ z ∉ w1 ∧ ∀ y, y ∈ w2 → y ∈ u ∨ y ∈ w1 ∨ y = z := by
  cases e : scanH u w with
  | none => exact .inl (scanH_none e)
  | some q =>
    obtain ⟨h, x⟩ := q
    obtain ⟨⟨r, e1, hr⟩, h1, h2⟩ := scanH_some e
    exact .inr ⟨h, x, r, e1, h1, h2, hr⟩
theorem split_old (u w : List UInt8) : (∀ y, y ∈ u → y ∈ w) ∨ ∃ r z t, u = r ++ z :: t ∧ z ∉ w ∧ z ∉ t ∧ ∀ y, y ∈ r → y ∈ w ∨ y ∈ t ∨ y = z := by
  rcases split_new w.reverse u.reverse with h | ⟨w1, z, w2, e, h1, h2, h3⟩
  · exact .inl fun y hy => by simpa using h y (by simpa using hy)
  · refine .inr ⟨w2.reverse, z, w1.reverse, ?_, by simpa using h1, by simpa using h2, fun y hy => by simpa using h3 y (by simpa using hy)⟩
    have := congrArg List.reverse e
    simpa using this
theorem scanH_ne {u : List UInt8} (hu : u ≠ []) : ∃ h x, scanH [] u = some (h, x) := by
  cases u with
  | nil => exact (hu rfl).elim
  | cons a u =>
    rw [scanH]
    split
    · next h y _ => exact ⟨_, _, rfl⟩
    · exact ⟨[], a, by simp⟩
def hd (u : List UInt8) : List UInt8 := match scanH [] u with | some (h, _) => h | none => []
def hl (u : List UInt8) : UInt8 := match scanH [] u with | some (_, x) => x | none => 0
def tl (u : List UInt8) : List UInt8 := (hd u.reverse).reverse
def ll (u : List UInt8) : UInt8 := hl u.reverse
theorem hdIs (hu : u ≠ []) : HdIs u (hd u) (hl u) := by
  obtain ⟨h, x, e⟩ := scanH_ne hu
  have e1 : hd u = h := by unfold hd; rw [e]
  have e2 : hl u = x := by unfold hl; rw [e]
  rw [e1, e2]
  obtain ⟨⟨r, e, hr⟩, _, h2⟩ := scanH_some e
  exact ⟨⟨r, e, fun y hy => (hr y hy).elim (fun h => by cases h) id⟩, h2⟩
theorem tlIs (hu : u ≠ []) : TlIs u (ll u) (tl u) := by
  rw [TlIs.rev]
  unfold tl ll
  rw [List.reverse_reverse]
  exact hdIs (by simpa using hu)
theorem HdIs.eq (k : HdIs u h x) : hd u = h ∧ hl u = x := (hdIs k.ne).unique k
theorem TlIs.ne (k : TlIs u x t) : u ≠ [] := fun e => by have := k.lt; rw [e] at this; simp at this
theorem TlIs.eq (k : TlIs u x t) : ll u = x ∧ tl u = t := (tlIs k.ne).unique k
theorem hd_lt (hu : u ≠ []) : (hd u).length < u.length := (hdIs hu).lt
theorem tl_lt (hu : u ≠ []) : (tl u).length < u.length := (tlIs hu).lt
end
end Go.Proofs.Ytnchipcpeeofaaa

namespace Go.Proofs.Ytnchipcpeeofaaa
set_option linter.unusedVariables false

/-- Two words are the same. -/
inductive Same : List UInt8 → List UInt8 → Prop
  | nil : Same [] []
  | step {u v h h' t t' : List UInt8} {x y : UInt8} : HdIs u h x → HdIs v h' x → TlIs u y t → TlIs v y t' → Same h h' → Same t t' → Same u v
section
variable {u v w h h' t t' : List UInt8} {x x' y y' z : UInt8}
theorem Same.nil_iff (s : Same u v) : u = [] ↔ v = [] := by
  cases s with
  | nil => exact Iff.rfl
  | step k1 k2 _ _ _ _ => exact ⟨fun e => (k1.ne e).elim, fun e => (k2.ne e).elim⟩
theorem Same.mem (s : Same u v) : ∀ y, y ∈ u ↔ y ∈ v := by
  induction s with
  | nil => exact fun y => Iff.rfl
  | step k1 k2 _ _ _ _ ih _ => exact fun y => by rw [k1.mem, k2.mem, ih y]
theorem same_refl : ∀ (n : Nat) (u : List UInt8), u.length ≤ n → Same u u
  | 0, u, hn => by
    obtain rfl : u = [] := List.eq_nil_of_length_eq_zero (by omega)
    exact .nil
  | n + 1, u, hn => by
    by_cases hu : u = []
    · subst hu; exact .nil
    · have h1 := hd_lt hu
      have h2 := tl_lt hu
      exact .step (hdIs hu) (hdIs hu) (tlIs hu) (tlIs hu) (same_refl n _ (by omega)) (same_refl n _ (by omega))
theorem Same.refl (u : List UInt8) : Same u u := same_refl _ u (Nat.le_refl _)
theorem Same.symm (s : Same u v) : Same v u := by
  induction s with
  | nil => exact .nil
  | step k1 k2 k3 k4 _ _ i1 i2 => exact .step k2 k1 k4 k3 i1 i2
theorem Same.inv (s : Same u v) (hu : u ≠ []) : v ≠ [] ∧ hl u = hl v ∧ ll u = ll v ∧ Same (hd u) (hd v) ∧ Same (tl u) (tl v) := by
  cases s with
  | nil => exact (hu rfl).elim
  | step k1 k2 k3 k4 i1 i2 =>
    refine ⟨k2.ne, ?_, ?_, ?_, ?_⟩
    · rw [k1.eq.2, k2.eq.2]
    · rw [k3.eq.1, k4.eq.1]
    · rw [k1.eq.1, k2.eq.1]; exact i1
    · rw [k3.eq.2, k4.eq.2]; exact i2
theorem Same.intro (hu : u ≠ []) (hv : v ≠ []) (e1 : hl u = hl v) (e2 : ll u = ll v) (s1 : Same (hd u) (hd v)) (s2 : Same (tl u) (tl v)) : Same u v :=
  .step (hdIs hu) (e1 ▸ hdIs hv) (tlIs hu) (e2 ▸ tlIs hv) s1 s2
theorem same_trans : ∀ (n : Nat) {u v w : List UInt8}, u.length ≤ n → Same u v → Same v w → Same u w
  | 0, u, v, w, hn, s1, s2 => by
    obtain rfl : u = [] := List.eq_nil_of_length_eq_zero (by omega)
    obtain rfl : v = [] := s1.nil_iff.1 rfl
    exact s2
  | n + 1, u, v, w, hn, s1, s2 => by
    by_cases hu : u = []
    · subst hu
      obtain rfl : v = [] := s1.nil_iff.1 rfl
      exact s2
    · obtain ⟨hv, a1, a2, a3, a4⟩ := s1.inv hu
      obtain ⟨hw, b1, b2, b3, b4⟩ := s2.inv hv
      have h1 := hd_lt hu
      have h2 := tl_lt hu
      exact .intro hu hw (a1.trans b1) (a2.trans b2) (same_trans n (by omega) a3 b3) (same_trans n (by omega) a4 b4)
theorem Same.trans (s1 : Same u v) (s2 : Same v w) : Same u w := same_trans _ (Nat.le_refl _) s1 s2
theorem Same.rev (s : Same u v) : Same u.reverse v.reverse := by
  induction s with
  | nil => exact .nil
  | step k1 k2 k3 k4 _ _ i1 i2 => exact .step (TlIs.rev.1 k3) (TlIs.rev.1 k4) (HdIs.rev.1 k1) (HdIs.rev.1 k2) i2 i1
/-- What stands behind the last place of a letter. -/
theorem same_suf : ∀ (n : Nat) {u v : List UInt8}, u.length ≤ n → Same u v → z ∈ u → ∃ r s r' s', u = r ++ z :: s ∧ z ∉ s ∧ v = r' ++ z :: s' ∧ z ∉ s' ∧ Same s s'
  | 0, u, v, hn, s, hz => by
    obtain rfl : u = [] := List.eq_nil_of_length_eq_zero (by omega)
    cases hz
  | n + 1, u, v, hn, s, hz => by
    cases s with
    | nil => cases hz
    | @step _ _ h1 h2 t1 t2 x1 y1 k1 k2 k3 k4 i1 i2 =>
      have hlt := k3.lt
      have hm := k3.mem.1 hz
      obtain ⟨r, e, _⟩ := k3.ex
      obtain ⟨r', e', _⟩ := k4.ex
      rcases Classical.em (z ∈ t1) with ht | ht
      · obtain ⟨r1, s1, r2, s2, e1, n1, e2, n2, hs⟩ := same_suf n (by omega) i2 ht
        exact ⟨r ++ y1 :: r1, s1, r' ++ y1 :: r2, s2, by rw [e, e1]; simp, n1, by rw [e', e2]; simp, n2, hs⟩
      · rcases hm with h | rfl
        · exact (ht h).elim
        · exact ⟨r, _, r', _, e, k3.new, e', k4.new, i2⟩
theorem suf_unique {r s r' s' : List UInt8} (e : r ++ z :: s = r' ++ z :: s') (h : z ∉ s) (h' : z ∉ s') : s = s' := by
  rcases List.append_eq_append_iff.1 e with ⟨a, ha, hb⟩ | ⟨a, ha, hb⟩
  · cases a with
    | nil => simpa using hb
    | cons b a =>
      rw [List.cons_append, List.cons.injEq] at hb
      exact (h (by rw [hb.2]; simp)).elim
  · cases a with
    | nil => simpa using hb.symm
    | cons b a =>
      rw [List.cons_append, List.cons.injEq] at hb
      exact (h' (by rw [hb.2]; simp)).elim
/-- A further word behind both. -/
theorem same_right : ∀ (n : Nat) {u v w : List UInt8}, u.length + w.length ≤ n → Same u v → Same (u ++ w) (v ++ w)
  | n, u, v, w, hn, s => by
    by_cases hu : u = []
    · subst hu
      obtain rfl : v = [] := s.nil_iff.1 rfl
      exact .refl _
    · obtain ⟨hv, a1, a2, a3, a4⟩ := s.inv hu
      have m := s.mem
      have hn0 : 0 < u.length := List.length_pos_iff.2 hu
      match n, hn with
      | 0, hn => omega
      | n + 1, hn =>
        have HH : ∃ p q x, HdIs (u ++ w) p x ∧ HdIs (v ++ w) q x ∧ Same p q := by
          rcases split_new u w with hw | ⟨w1, z, w2, e, h1, h2, h3⟩
          · exact ⟨hd u, hd v, hl u, (hdIs hu).more hw, a1 ▸ (hdIs hv).more (fun y hy => (m y).1 (hw y hy)), a3⟩
          · have hlw : w1.length < w.length := by rw [e]; simp
            refine ⟨u ++ w1, v ++ w1, z, ⟨⟨w2, by rw [e]; simp, fun y hy => ?_⟩, ?_⟩, ⟨⟨w2, by rw [e]; simp, fun y hy => ?_⟩, ?_⟩, same_right n (by omega) s⟩
            · rw [List.mem_append]
              rcases h3 y hy with h | h | h
              · exact .inl (.inl h)
              · exact .inl (.inr h)
              · exact .inr h
            · rw [List.mem_append]; exact fun h => h.elim h1 h2
            · rw [List.mem_append]
              rcases h3 y hy with h | h | h
              · exact .inl (.inl ((m y).1 h))
              · exact .inl (.inr h)
              · exact .inr h
            · rw [List.mem_append]; exact fun h => h.elim (fun h => h1 ((m z).2 h)) h2
        have HT : ∃ p q x, TlIs (u ++ w) x p ∧ TlIs (v ++ w) x q ∧ Same p q := by
          rcases split_old u w with hw | ⟨r, z, t1, e, h1, h2, h3⟩
          · have hwn : w ≠ [] := fun e => by
              cases u with
              | nil => exact hu rfl
              | cons b u' => have := hw b (by simp); rw [e] at this; cases this
            exact ⟨tl w, tl w, ll w, (tlIs hwn).more hw, (tlIs hwn).more (fun y hy => hw y ((m y).2 hy)), .refl _⟩
          · obtain ⟨r1, s1, r2, s2, e1, n1, e2, n2, hs⟩ := same_suf (z := z) _ (Nat.le_refl _) s (by rw [e]; simp)
            have hst : s1 = t1 := suf_unique (e1.symm.trans e) n1 h2
            subst hst
            have hlt : s1.length < u.length := by rw [e]; simp; omega
            refine ⟨s1 ++ w, s2 ++ w, z, ⟨⟨r, by rw [e]; simp, fun y hy => ?_⟩, ?_⟩, ⟨⟨r2, by rw [e2]; simp, fun y hy => ?_⟩, ?_⟩, same_right n (by omega) hs⟩
            · rw [List.mem_append]
              rcases h3 y hy with h | h | h
              · exact .inl (.inr h)
              · exact .inl (.inl h)
              · exact .inr h
            · rw [List.mem_append]; exact fun h => h.elim h2 h1
            · rw [List.mem_append]
              have hyu : y ∈ u := (m y).2 (by rw [e2]; simp [hy])
              rw [e, List.mem_append, List.mem_cons] at hyu
              have : y ∈ w ∨ y ∈ s1 ∨ y = z := by
                rcases hyu with h | h | h
                · exact h3 y h
                · exact .inr (.inr h)
                · exact .inr (.inl h)
              rcases this with h | h | h
              · exact .inl (.inr h)
              · exact .inl (.inl ((hs.mem y).1 h))
              · exact .inr h
            · rw [List.mem_append]; exact fun h => h.elim n2 h1
        obtain ⟨p, q, x, k1, k2, s1⟩ := HH
        obtain ⟨p', q', x', k3, k4, s2⟩ := HT
        exact .step k1 k2 k3 k4 s1 s2
theorem Same.right (s : Same u v) (w : List UInt8) : Same (u ++ w) (v ++ w) := same_right _ (Nat.le_refl _) s
theorem Same.left (s : Same u v) (w : List UInt8) : Same (w ++ u) (w ++ v) := by
  have := (s.rev.right w.reverse).rev
  simpa using this
theorem Same.both {u' v' : List UInt8} (s : Same u v) (s' : Same u' v') : Same (u ++ u') (v ++ v') := (s.right u').trans (s'.left v)
end
/-- The word that is made of parts. -/
def madeF : Nat → List UInt8 → List UInt8
  | 0, _ => []
  | k + 1, u => if u.isEmpty then [] else if u.all (· == hl u) then [hl u] else madeF k (hd u) ++ hl u :: ll u :: madeF k (tl u)
def made (u : List UInt8) : List UInt8 := madeF u.length u
section
variable {u v w h h' t t' : List UInt8} {x x' y y' z : UInt8}
end
end Go.Proofs.Ytnchipcpeeofaaa
