/-  -/
import Derived.Test.YthllbekoidogpaaSword
import Derived.Test.YthllbekoidogpaaFill
import Derived.Test.YthllbekoidogpaaPureX
import Derived.Test.YthllbekoidogpaaMark
import Derived.Deep.RegionHeld3
import Derived.Laws.IdiomStrings
namespace Go.Proofs.Ythllbekoidogpaa
open Go.RowKit
set_option linter.unusedVariables false


/-- The j-th text of a row. -/
def sl (L : List (List UInt8)) (j : Nat) : List UInt8 := L.getD j []
/-- A row of texts in blocks from lo on, below hi. -/
def Srow (w : World) (lo hi : Nat) (A : Option Addr) (L : List (List UInt8)) : Prop :=
  ∀ j, j < L.length → ∃ b o, A = some ⟨b, o, none⟩ ∧ lo ≤ b ∧ b < hi ∧ w.cell? ⟨b, o + j, none⟩ = some (.string (bs (sl L j)))
def SCells (w : World) (g : Nat) (L : List (List UInt8)) : Prop :=
  ∀ j, j < L.length → w.cell? ⟨g, j, none⟩ = some (.string (bs (sl L j))) ∧ w.frozen? ⟨g, j, none⟩ = false
def OStr (w : World) (lo hi : Nat) (A : Option Addr) (L : List (List UInt8)) : Prop := L.length = 0 ∨ ∃ g, A = some ⟨g, 0, none⟩ ∧ lo ≤ g ∧ g < hi ∧ SCells w g L
def OwnStr (w : World) (L : List (List UInt8)) (e : Ending) (w' : World) : Prop := ∃ A c, e = .returned (.slice A L.length c) ∧ Below w.heap.size w w' ∧ OStr w' w.heap.size w'.heap.size A L ∧ L.length ≤ c ∧ c ≤ 9223372036854775807
def NewStr (w : World) (L : List (List UInt8)) (e : Ending) (w' : World) : Prop := ∃ A c, e = .returned (.slice A L.length c) ∧ Below w.heap.size w w' ∧ Srow w' w.heap.size w'.heap.size A L ∧ L.length ≤ c ∧ c ≤ 9223372036854775807
/-- A row of texts of the call's own, made by appending. -/
def AStr (base : Nat) (w : World) (v : Value) (L : List (List UInt8)) : Prop := w.ownsRow base 9 1 v L.length (L.map fun u => Value.string (bs u))
theorem info_str : (Try.prog.info? 9).map (fun i => (i.zero, i.size, i.bytes)) = some (some (.string ⟨#[]⟩), 1, 16) := by kernel_rfl
section
variable {w w' : World} {lo hi base : Nat} {A : Option Addr} {L : List (List UInt8)} {v : Value}
theorem sl_at {j : Nat} (h : j < L.length) : sl L j = L[j] := by simp [sl, List.getD, h]
theorem Srow.keep (h : Srow w lo hi A L) (hk : ∀ k, lo ≤ k → k < hi → w'.heap[k]? = w.heap[k]?) : Srow w' lo hi A L := fun j hj => by
  obtain ⟨b, o, e, h1, h2, hc⟩ := h j hj
  exact ⟨b, o, e, h1, h2, (World.cell?_of_block (w := w) (hk b h1 h2)).trans hc⟩
theorem Srow.mono (h : Srow w lo hi A L) {lo' hi' : Nat} (h1 : lo' ≤ lo) (h2 : hi ≤ hi') : Srow w lo' hi' A L := fun j hj => by
  obtain ⟨b, o, e, a1, a2, hc⟩ := h j hj
  exact ⟨b, o, e, by omega, by omega, hc⟩
theorem Srow.below {B : Nat} (h : Srow w lo hi A L) (hb : Below B w w') (hB : hi ≤ B) : Srow w' lo hi A L := h.keep fun k _ hk => hb.block k (by omega)
theorem Srow.only {lo' hi' : Nat} (h : Srow w lo hi A L) (hb : Only lo' hi' w w') (hs : hi ≤ w.heap.size) (hd : hi ≤ lo' ∨ hi' ≤ lo) : Srow w' lo hi A L := h.keep fun k h1 h2 => hb.block k (by omega) (by omega)
theorem Srow.quiet (h : Srow w lo hi A L) (q : QD w w') : Srow w' lo hi A L := h.keep fun k _ _ => by rw [q.heap]
theorem Srow.nil (w : World) (lo hi : Nat) (A : Option Addr) : Srow w lo hi A [] := fun _ hj => absurd hj (Nat.not_lt_zero _)
theorem SCells.keep {g : Nat} (h : SCells w g L) (hk : w'.heap[g]? = w.heap[g]?) : SCells w' g L := fun j hj =>
  ⟨(World.cell?_of_block (w := w) hk).trans (h j hj).1, (World.frozen?_of_block (w := w) hk).trans (h j hj).2⟩
theorem OStr.row (h : OStr w lo hi A L) : Srow w lo hi A L := by
  rcases h with h | ⟨g, rfl, h1, h2, h3⟩
  · exact fun j hj => by omega
  · exact fun j hj => ⟨g, 0, rfl, h1, h2, by simpa using (h3 j hj).1⟩
theorem OStr.keep (h : OStr w lo hi A L) (hk : ∀ k, lo ≤ k → k < hi → w'.heap[k]? = w.heap[k]?) : OStr w' lo hi A L := by
  rcases h with h | ⟨g, e, h1, h2, h3⟩
  · exact .inl h
  · exact .inr ⟨g, e, h1, h2, h3.keep (hk g h1 h2)⟩
theorem OStr.below {B : Nat} (h : OStr w lo hi A L) (hb : Below B w w') (hB : hi ≤ B) : OStr w' lo hi A L := h.keep fun k _ hk => hb.block k (by omega)
theorem OStr.only {lo' hi' : Nat} (h : OStr w lo hi A L) (hb : Only lo' hi' w w') (hs : hi ≤ w.heap.size) (hd : hi ≤ lo' ∨ hi' ≤ lo) : OStr w' lo hi A L := h.keep fun k h1 h2 => hb.block k (by omega) (by omega)
theorem OStr.mono (h : OStr w lo hi A L) {lo' hi' : Nat} (h1 : lo' ≤ lo) (h2 : hi ≤ hi') : OStr w lo' hi' A L := by
  rcases h with h | ⟨g, e, a1, a2, h3⟩
  · exact .inl h
  · exact .inr ⟨g, e, by omega, by omega, h3⟩
theorem OStr.nil (w : World) (lo hi : Nat) (A : Option Addr) : OStr w lo hi A [] := .inl rfl
theorem AStr.below (h : AStr base w v L) (hb : Below w.heap.size w w') : AStr base w' v L := ownsRow_below h hb
theorem AStr.mono {base' : Nat} (h : AStr base w v L) (hb : base' ≤ base) : AStr base' w v L := ownsRow_mono h hb
theorem AStr.nil_ (base : Nat) (w : World) : AStr base w (.slice none 0 0) [] := World.ownsRow_nil w base _ _
theorem AStr.made (hb : base ≤ w.heap.size) : AStr base (w.alloc (.cells #[] 9)) (.slice (some ⟨w.heap.size, 0, none⟩) 0 0) [] := World.ownsRow_made w #[] 0 hb (by simp [maxLen]) rfl
theorem AStr.belowOf {base0 : Nat} {w1 : World} (h : AStr base w v L) (hg : w.grownBy w1 v.ownBlock) (hb : base0 ≤ base) (hw : base0 ≤ w.heap.size) : Below base0 w w1 :=
  (Below.refl _ _).grown hg hw fun k hk => Nat.le_trans hb (h.lt k hk).1
theorem AStr.ostr (h : AStr base w v L) : ∃ A c, v = .slice A L.length c ∧ L.length ≤ c ∧ c ≤ 9223372036854775807 ∧ OStr w base w.heap.size A L := by
  rcases h.2 with ⟨rfl, h0⟩ | ⟨g, cap, cur, rfl, hg, hh, hc, hm, _, _⟩
  · have : L = [] := List.eq_nil_of_length_eq_zero h0
    subst this
    exact ⟨none, 0, rfl, Nat.le_refl _, by omega, OStr.nil _ _ _ _⟩
  · refine ⟨_, cap, rfl, hc, by rw [maxLen_is] at hm; exact hm, .inr ⟨g, rfl, hg, (Array.getElem?_eq_some_iff.1 hh).1, fun j hj => ⟨?_, ?_⟩⟩⟩
    · have := h.cells (g := g) rfl j (.string (bs (sl L j))) (by simp [hj, sl, List.getD])
      simpa [Addr.add_lit] using this
    · simp [World.frozen?, hh]
theorem AStr.val (h : AStr base w v L) : ∃ A c, v = .slice A L.length c ∧ L.length ≤ c ∧ c ≤ 9223372036854775807 ∧ Srow w base w.heap.size A L := by
  obtain ⟨A, c, e, h1, h2, h3⟩ := h.ostr
  exact ⟨A, c, e, h1, h2, h3.row⟩
end

/-- 'row = append(row, text)'. -/
theorem wp_app_str {ops : Array Oper} {rest : List Oper} {o : Oper} {a : Act} {Q : Exit → Act → World → Prop} {w : World} (hgd : o.guard = none) (s x : Operand)
    (ho : o.op = .call { callee := .builtin .append, args := #[s, x], argTypes := #[69, 69] }) (base : Nat) (v : Value) (L : List (List UInt8)) (q : List UInt8) (c : Nat) (hs : a.eval s = v) (hx : a.eval x = .slice (some ⟨w.heap.size, 0, none⟩) 1 c)
    (hown : AStr base w v L) (hn : L.length ≤ 1048576) (hb : base ≤ w.heap.size)
    (h : ∀ v' w', AStr base w' v' (L ++ [q]) → w.grownBy w' v.ownBlock → wpList Try.prog ops Q rest (a.put o.dst v') w') : wpList Try.prog ops Q (o :: rest) a (w.alloc (.cells #[.string (bs q)] 9)) := by
  obtain ⟨i0, hi0, hz0, hz1, hz2⟩ := info_parts info_str
  refine wpList_append_own _ hgd s x 69 ho base 9 i0 (.string ⟨#[]⟩) 1 16 Try.underlying69 hi0 hz0 hz1 hz2 rfl (by decide) v _ _ hs (hown.alloc _) ⟨w.heap.size, 0, none⟩ 1 c [.string (bs q)] hx rfl
    (World.news_of_block (cs := #[.string (bs q)]) (t := 9) (fr := (0, 0)) (heap_alloc_new _ _)) (by simp [Value.oneCell']) (by rw [maxLen_is]; omega) (by omega) (by simp; omega) ?_
  intro v' w' h1 h2 _
  exact h v' w' (by unfold AStr; simpa using h1) (grown_alloc _ h2)
/-- .. inside a region that draws its order. -/
theorem step_app_str {ops : Array Oper} {o : Oper} {a : Act} {K : Act → World → Prop} {Q : Exit → Act → World → Prop} {E : Prop} {w : World} (hgd : o.guard = none) (s x : Operand)
    (ho : o.op = .call { callee := .builtin .append, args := #[s, x], argTypes := #[69, 69] }) (base : Nat) (v : Value) (L : List (List UInt8)) (q : List UInt8) (c : Nat) (hs : a.eval s = v) (hx : a.eval x = .slice (some ⟨w.heap.size, 0, none⟩) 1 c)
    (hown : AStr base w v L) (hn : L.length ≤ 1048576) (hb : base ≤ w.heap.size)
    (h : ∀ v' w', AStr base w' v' (L ++ [q]) → w.grownBy w' v.ownBlock → K (a.put o.dst v') w') :
    if Region.wanted o (yielded ops a.tmps) = true then Oper.wp Try.prog o a (w.alloc (.cells #[.string (bs q)] 9)) K Q else E := by
  have hw : Region.wanted o (yielded ops a.tmps) = true := by simp [Region.wanted, hgd]
  rw [if_pos hw]
  obtain ⟨i0, hi0, hz0, hz1, hz2⟩ := info_parts info_str
  refine wp_append_own _ s x 69 ho base 9 i0 (.string ⟨#[]⟩) 1 16 Try.underlying69 hi0 hz0 hz1 hz2 rfl (by decide) v _ _ hs (hown.alloc _) ⟨w.heap.size, 0, none⟩ 1 c [.string (bs q)] hx rfl
    (World.news_of_block (cs := #[.string (bs q)]) (t := 9) (fr := (0, 0)) (heap_alloc_new _ _)) (by simp [Value.oneCell']) (by rw [maxLen_is]; omega) (by omega) (by simp; omega) ?_
  intro v' w' h1 h2 _
  exact h v' w' (by unfold AStr; simpa using h1) (grown_alloc _ h2)

end Go.Proofs.Ythllbekoidogpaa

namespace Go.Proofs.Ythllbekoidogpaa
open Go.RowKit
set_option linter.unusedVariables false


/-- The digits of a number. -/
def mtF : Nat → Nat → List UInt8
  | 0, _ => []
  | f + 1, k => if k = 0 then [] else mtF f (k / 10) ++ [UInt8.ofNat (48 + k % 10)]
theorem mtF_zero : ∀ f, mtF f 0 = []
  | 0 => rfl
  | f + 1 => by simp [mtF]
theorem mtF_succ {f k : Nat} (h : k ≠ 0) : mtF (f + 1) k = mtF f (k / 10) ++ [UInt8.ofNat (48 + k % 10)] := by simp [mtF, h]
theorem len_mtF : ∀ f k, (mtF f k).length ≤ f
  | 0, _ => Nat.le_refl _
  | f + 1, k => by
    by_cases h : k = 0
    · subst h; rw [mtF_zero]; simp
    · rw [mtF_succ h, List.length_append]
      have := len_mtF f (k / 10)
      simp; omega
theorem conv_one (c : UInt8) (x : Int) (hx : x = (c.toNat : Int)) (w : World) : (convert 22 9 (.slice (some ⟨w.heap.size, 0, none⟩) 1 1)).run Try.prog (w.alloc (.cells #[.int .u8 x] 5)) = .ok (.string (bs [c])) (w.alloc (.cells #[.int .u8 x] 5)) := by
  subst hx
  refine run_convert_bytes_back (P := Try.prog) (w.alloc (.cells #[.int .u8 (c.toNat : Int)] 5)) 22 9 5 ⟨w.heap.size, 0, none⟩ 1 [c] Try.underlying22 Try.underlying5 Try.underlying9 fun j hj => ?_
  obtain rfl : j = 0 := by simpa using hj
  simp [Addr.add]
def mtx (k : Nat) : List UInt8 := 109 :: mtF 13 k
def marksS (n k : Nat) : List (List UInt8) := (List.range n).map fun i => mtx (k + i)
theorem len_marksS (n k : Nat) : (marksS n k).length = n := by simp [marksS]
theorem sl_marksS {n j k : Nat} (h : j < n) : sl (marksS n k) j = mtx (k + j) := by simp [sl, marksS, List.getD, h]
end Go.Proofs.Ythllbekoidogpaa
