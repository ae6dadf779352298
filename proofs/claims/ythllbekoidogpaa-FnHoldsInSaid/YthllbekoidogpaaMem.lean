
/- What memory holds: rows of integers, tables of rows; what a call may have turned. No walk, no program: plain facts about worlds, used by all walks of this seat. -/
import Derived.WalkKit
import Derived.Deep.OwnRows
import Derived.Deep.Draws
namespace Go.Proofs.Ythllbekoidogpaa
set_option linter.unusedVariables false
open Go.RowKit

/-- Only blocks from lo on, below hi, and new blocks may have turned. -/
structure Only (lo hi : Nat) (w w' : World) : Prop where
  os : w'.os = w.os
  tape : w'.tape = w.tape
  output : w'.output = w.output
  size : w.heap.size ≤ w'.heap.size
  block : ∀ k, k < w.heap.size → (k < lo ∨ hi ≤ k) → w'.heap[k]? = w.heap[k]?

theorem Only.of_below {B hi : Nat} {w w' : World} (h : Below w.heap.size w w') : Only B hi w w' := ⟨h.os, h.tape, h.output, h.size, fun k hk _ => h.block k hk⟩
theorem Only.below {lo hi B : Nat} {w w' : World} (h : Only lo hi w w') (hB : B ≤ lo) (hs : B ≤ w.heap.size) : Below B w w' := ⟨h.os, h.tape, h.output, h.size, fun k hk => h.block k (by omega) (.inl (by omega))⟩
theorem Only.trans {lo hi : Nat} {a b c : World} (h : Only lo hi a b) (k : Only lo hi b c) : Only lo hi a c :=
  ⟨k.os.trans h.os, k.tape.trans h.tape, k.output.trans h.output, Nat.le_trans h.size k.size, fun i hi ho => (k.block i (Nat.lt_of_lt_of_le hi h.size) ho).trans (h.block i hi ho)⟩
theorem Only.refl (lo hi : Nat) (w : World) : Only lo hi w w := ⟨rfl, rfl, rfl, Nat.le_refl _, fun _ _ _ => rfl⟩
theorem Only.drewN {lo hi : Nat} {w w' : World} (h : Only lo hi w w') (n : Nat) : Only lo hi w (w'.drewN n) := ⟨h.os, h.tape, h.output, h.size, h.block⟩
theorem Only.setCell {lo hi : Nat} {w w' : World} (h : Only lo hi w w') {p : Addr} (h1 : lo ≤ p.block) (h2 : p.block < hi) (u : Value) : Only lo hi w (w'.setCell p u) :=
  ⟨h.os, h.tape, h.output, by simpa [World.setCell] using h.size, fun k hk ho => (Below.heap_setCell _ _ _ _ (by omega)).trans (h.block k hk ho)⟩
theorem Only.mono {lo hi lo' hi' : Nat} {w w' : World} (h : Only lo hi w w') (h1 : lo' ≤ lo) (h2 : hi ≤ hi') : Only lo' hi' w w' := ⟨h.os, h.tape, h.output, h.size, fun k hk ho => h.block k hk (by omega)⟩

theorem Below.drewN_ {B : Nat} {a w : World} (h : Below B a w) (n : Nat) : Below B a (w.drewN n) := ⟨h.os, h.tape, h.output, h.size, h.block⟩
theorem below_drewN {B : Nat} {w : World} (n : Nat) : Below B w (w.drewN n) := Below.drewN_ (Below.refl _ _) n

/-- The j-th number of a row; the i-th row of a table: names of our own, so that the walk's simp leaves them alone. -/
def el (xs : List Int) (j : Nat) : Int := xs.getD j 0
def rw_ (T : List (List Int)) (i : Nat) : List Int := T.getD i []

/-- A row of integers in blocks from lo on, below hi. -/
def Row (w : World) (lo hi : Nat) (A : Option Addr) (xs : List Int) : Prop :=
  ∀ j, j < xs.length → ∃ b o, A = some ⟨b, o, none⟩ ∧ lo ≤ b ∧ b < hi ∧ w.cell? ⟨b, o + j, none⟩ = some (.int .i64 (el xs j))

/-- A table of rows. -/
def Mat (w : World) (lo hi : Nat) (A : Option Addr) (T : List (List Int)) : Prop :=
  ∀ i, i < T.length → ∃ b o A' c, A = some ⟨b, o, none⟩ ∧ lo ≤ b ∧ b < hi ∧ w.cell? ⟨b, o + i, none⟩ = some (.slice A' (rw_ T i).length c) ∧ Row w lo hi A' (rw_ T i)

/-- A row of the call's own, from the head of block g. -/
def Cells (w : World) (g : Nat) (xs : List Int) : Prop :=
  ∀ j, j < xs.length → w.cell? ⟨g, j, none⟩ = some (.int .i64 (el xs j)) ∧ w.frozen? ⟨g, j, none⟩ = false

/-- A table of the call's own: each row in a block of its own. -/
def OMat (w : World) (lo hi : Nat) (A : Option Addr) (T : List (List Int)) : Prop :=
  ∃ (b o : Nat) (g C : Nat → Nat), (∀ i, i < T.length → A = some ⟨b, o, none⟩ ∧ lo ≤ b ∧ b < hi ∧ g i ≠ b ∧ lo ≤ g i ∧ g i < hi ∧
    w.cell? ⟨b, o + i, none⟩ = some (.slice (some ⟨g i, 0, none⟩) (rw_ T i).length (C i)) ∧ Cells w (g i) (rw_ T i)) ∧ ∀ i j, i < T.length → j < T.length → i ≠ j → g i ≠ g j

section
variable {w w' : World} {lo hi : Nat} {A : Option Addr} {xs : List Int} {T : List (List Int)}

theorem Row.keep (h : Row w lo hi A xs) (hk : ∀ k, lo ≤ k → k < hi → w'.heap[k]? = w.heap[k]?) : Row w' lo hi A xs := fun j hj => by
  obtain ⟨b, o, e, h1, h2, hc⟩ := h j hj
  exact ⟨b, o, e, h1, h2, (World.cell?_of_block (w := w) (hk b h1 h2)).trans hc⟩
theorem Mat.keep (h : Mat w lo hi A T) (hk : ∀ k, lo ≤ k → k < hi → w'.heap[k]? = w.heap[k]?) : Mat w' lo hi A T := fun i hi' => by
  obtain ⟨b, o, A', c, e, h1, h2, hc, hr⟩ := h i hi'
  exact ⟨b, o, A', c, e, h1, h2, (World.cell?_of_block (w := w) (hk b h1 h2)).trans hc, hr.keep hk⟩
theorem Cells.keep {g : Nat} (h : Cells w g xs) (hk : w'.heap[g]? = w.heap[g]?) : Cells w' g xs := fun j hj =>
  ⟨(World.cell?_of_block (w := w) hk).trans (h j hj).1, (World.frozen?_of_block (w := w) hk).trans (h j hj).2⟩
theorem OMat.keep (h : OMat w lo hi A T) (hk : ∀ k, lo ≤ k → k < hi → w'.heap[k]? = w.heap[k]?) : OMat w' lo hi A T := by
  obtain ⟨b, o, g, C, h1, h2⟩ := h
  refine ⟨b, o, g, C, fun i hi' => ?_, h2⟩
  obtain ⟨e, a1, a2, a3, a4, a5, a6, a7⟩ := h1 i hi'
  exact ⟨e, a1, a2, a3, a4, a5, (World.cell?_of_block (w := w) (hk b a1 a2)).trans a6, a7.keep (hk _ a4 a5)⟩
theorem Row.mono (h : Row w lo hi A xs) {lo' hi' : Nat} (h1 : lo' ≤ lo) (h2 : hi ≤ hi') : Row w lo' hi' A xs := fun j hj => by
  obtain ⟨b, o, e, a1, a2, hc⟩ := h j hj
  exact ⟨b, o, e, by omega, by omega, hc⟩
theorem Mat.mono (h : Mat w lo hi A T) {lo' hi' : Nat} (h1 : lo' ≤ lo) (h2 : hi ≤ hi') : Mat w lo' hi' A T := fun i hi' => by
  obtain ⟨b, o, A', c, e, a1, a2, hc, hr⟩ := h i hi'
  exact ⟨b, o, A', c, e, by omega, by omega, hc, hr.mono h1 h2⟩
theorem OMat.mono (h : OMat w lo hi A T) {lo' hi' : Nat} (h1 : lo' ≤ lo) (h2 : hi ≤ hi') : OMat w lo' hi' A T := by
  obtain ⟨b, o, g, C, h3, h4⟩ := h
  refine ⟨b, o, g, C, fun i hi' => ?_, h4⟩
  obtain ⟨e, a1, a2, a3, a4, a5, a6, a7⟩ := h3 i hi'
  exact ⟨e, by omega, by omega, a3, by omega, by omega, a6, a7⟩
theorem Row.below {B : Nat} (h : Row w lo hi A xs) (hb : Below B w w') (hB : hi ≤ B) : Row w' lo hi A xs := h.keep fun k _ hk => hb.block k (by omega)
theorem Mat.below {B : Nat} (h : Mat w lo hi A T) (hb : Below B w w') (hB : hi ≤ B) : Mat w' lo hi A T := h.keep fun k _ hk => hb.block k (by omega)
theorem OMat.below {B : Nat} (h : OMat w lo hi A T) (hb : Below B w w') (hB : hi ≤ B) : OMat w' lo hi A T := h.keep fun k _ hk => hb.block k (by omega)
theorem Cells.below {B g : Nat} (h : Cells w g xs) (hb : Below B w w') (hB : g < B) : Cells w' g xs := h.keep (hb.block g (by omega))
theorem Row.only {lo' hi' : Nat} (h : Row w lo hi A xs) (hb : Only lo' hi' w w') (hs : hi ≤ w.heap.size) (hd : hi ≤ lo' ∨ hi' ≤ lo) : Row w' lo hi A xs := h.keep fun k h1 h2 => hb.block k (by omega) (by omega)
theorem Mat.only {lo' hi' : Nat} (h : Mat w lo hi A T) (hb : Only lo' hi' w w') (hs : hi ≤ w.heap.size) (hd : hi ≤ lo' ∨ hi' ≤ lo) : Mat w' lo hi A T := h.keep fun k h1 h2 => hb.block k (by omega) (by omega)
theorem OMat.only {lo' hi' : Nat} (h : OMat w lo hi A T) (hb : Only lo' hi' w w') (hs : hi ≤ w.heap.size) (hd : hi ≤ lo' ∨ hi' ≤ lo) : OMat w' lo hi A T := h.keep fun k h1 h2 => hb.block k (by omega) (by omega)
theorem Row.drewN (h : Row w lo hi A xs) (n : Nat) : Row (w.drewN n) lo hi A xs := h
theorem Mat.drewN (h : Mat w lo hi A T) (n : Nat) : Mat (w.drewN n) lo hi A T := h
theorem OMat.drewN (h : OMat w lo hi A T) (n : Nat) : OMat (w.drewN n) lo hi A T := h
theorem Row.nil (w : World) (lo hi : Nat) (A : Option Addr) : Row w lo hi A [] := fun _ hj => absurd hj (Nat.not_lt_zero _)
theorem Mat.nil (w : World) (lo hi : Nat) (A : Option Addr) : Mat w lo hi A [] := fun _ hj => absurd hj (Nat.not_lt_zero _)
theorem OMat.nil (w : World) (lo hi : Nat) (A : Option Addr) : OMat w lo hi A [] := ⟨0, 0, id, id, fun _ hj => absurd hj (Nat.not_lt_zero _), fun _ _ hj _ _ => absurd hj (Nat.not_lt_zero _)⟩

theorem Cells.row {g : Nat} (h : Cells w g xs) (h1 : lo ≤ g) (h2 : g < hi) : Row w lo hi (some ⟨g, 0, none⟩) xs := fun j hj => ⟨g, 0, rfl, h1, h2, by simpa using (h j hj).1⟩
theorem OMat.mat (h : OMat w lo hi A T) : Mat w lo hi A T := by
  obtain ⟨b, o, g, C, h1, _⟩ := h
  intro i hi'
  obtain ⟨e, a1, a2, _, a4, a5, a6, a7⟩ := h1 i hi'
  exact ⟨b, o, _, _, e, a1, a2, a6, a7.row a4 a5⟩
theorem Cells.of_rowIs {g t n : Nat} {f : Nat → Value} (h : w.rowIs g t n f) (hn : xs.length ≤ n) (hf : ∀ j, j < xs.length → f j = .int .i64 (el xs j)) : Cells w g xs := fun j hj => ⟨(h.cell (i := j) (by omega)).trans (by rw [hf j hj]), h.frozen j⟩
end

/-- w' is w after some draws. -/
def QD (w w' : World) : Prop := ∃ n, w' = w.drewN n
theorem QD.refl (w : World) : QD w w := ⟨0, rfl⟩
theorem QD.drewN {w w' : World} (h : QD w w') (n : Nat) : QD w (w'.drewN n) := by
  obtain ⟨m, rfl⟩ := h
  exact ⟨m + n, by rw [World.drewN_drewN]⟩
theorem QD.drew {w w' : World} (h : QD w w') : QD w w'.drew := h.drewN 1
theorem QD.heap {w w' : World} (h : QD w w') : w'.heap = w.heap := by
  obtain ⟨m, rfl⟩ := h
  rfl
theorem QD.trans {a b c : World} (h : QD a b) (k : QD b c) : QD a c := by
  obtain ⟨m, rfl⟩ := k
  exact h.drewN m
theorem QD.below {w w' : World} (h : QD w w') (B : Nat) : Below B w w' := by
  obtain ⟨m, rfl⟩ := h
  exact below_drewN m
theorem Row.quiet {w w' : World} {lo hi : Nat} {A : Option Addr} {xs : List Int} (h : Row w lo hi A xs) (q : QD w w') : Row w' lo hi A xs := h.keep fun k _ _ => by rw [q.heap]
theorem Mat.quiet {w w' : World} {lo hi : Nat} {A : Option Addr} {T : List (List Int)} (h : Mat w lo hi A T) (q : QD w w') : Mat w' lo hi A T := h.keep fun k _ _ => by rw [q.heap]
theorem OMat.quiet {w w' : World} {lo hi : Nat} {A : Option Addr} {T : List (List Int)} (h : OMat w lo hi A T) (q : QD w w') : OMat w' lo hi A T := h.keep fun k _ _ => by rw [q.heap]
/-- A contract that only draws, offered at a call inside a region that reads. -/
theorem quiet_at {P : Program} {f : FuncId} {args : Array Value} {w : World} {a : Nat} {v : Value} (h : Calls P f args (w.drewN a) fun e w' => e = .returned v ∧ QD (w.drewN a) w') :
    Calls P f args (w.drewN a) fun e w'' => e = .returned v ∧ ∃ m, w'' = w.drewN m :=
  h.mono fun _ _ ⟨he, m, hm⟩ => ⟨he, a + m, by rw [hm, World.drewN_drewN]⟩
/-- All lengths are small. -/
structure Small (T : List (List Int)) : Prop where
  len : T.length ≤ 1048576
  row : ∀ i, i < T.length → (rw_ T i).length ≤ 1048576

/-- All lengths are lengths. -/
structure Sized (T : List (List Int)) : Prop where
  len : T.length ≤ 9223372036854775807
  row : ∀ i, i < T.length → (rw_ T i).length ≤ 9223372036854775807
theorem hide {p : Prop} (h : p) : Hid p := h
theorem ret_int {k : IntKind} {a b : Int} (h : a = b) : Ending.returned (.int k a) = .returned (.int k b) := by rw [h]
theorem ret_bool {a b : Bool} (h : a = b) : Ending.returned (.bool a) = .returned (.bool b) := by rw [h]
theorem maxLen_is : maxLen = 9223372036854775807 := rfl

end Go.Proofs.Ythllbekoidogpaa
