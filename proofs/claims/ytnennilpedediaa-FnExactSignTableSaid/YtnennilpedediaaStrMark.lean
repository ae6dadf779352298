/-  -/
import Derived.Test.YtnennilpedediaaSword
import Derived.Test.YtnennilpedediaaFill
import Derived.Test.YtnennilpedediaaPureX
import Derived.Test.YtnennilpedediaaMark
import Derived.Deep.RegionHeld3
import Derived.Laws.IdiomStrings
namespace Go.Proofs.Ytnennilpedediaa
open Go.RowKit
set_option linter.unusedVariables false


/-- The j-th text of a row. -/
def sl (L : List (List UInt8)) (j : Nat) : List UInt8 := L.getD j []
/-- A row of texts in blocks from lo on, below hi. -/
def Srow (w : World) (lo hi : Nat) (A : Option Addr) (L : List (List UInt8)) : Prop :=
  ∀ j, j < L.length → ∃ b o, A = some ⟨b, o, none⟩ ∧ lo ≤ b ∧ b < hi ∧ w.cell? ⟨b, o + j, none⟩ = some (.string (bs (sl L j)))
def SCells (w : World) (g : Nat) (L : List (List UInt8)) : Prop :=
  ∀ j, j < L.length → w.cell? ⟨g, j, none⟩ = some (.string (bs (sl L j))) ∧ w.frozen? ⟨g, j, none⟩ = false
def OStr (w : World) (lo hi : Nat) (A : Option Addr) (L : List (List UInt8)) : Prop := L.length = 0 ∨ ∃ g, A = some ⟨g, 0, none⟩ ∧ lo ≤ g ∧ g < hi ∧ SCells w g L
def OwnStr (w : World) (L : List (List UInt8)) (e : Ending) (w' : World) : Prop := ∃ A c, e = .returned (.slice A L.length c) ∧ Below w.heap.size w w' ∧ OStr w' w.heap.size w'.heap.size A L ∧ L.length ≤ c ∧ c ≤ 9223372036854775807
def NewStr (w : World) (L : List (List UInt8)) (e : Ending) (w' : World) : Prop := ∃ A c, e = .returned (.slice A L.length c) ∧ Below w.heap.size w w' ∧ Srow w' w.heap.size w'.heap.size A L ∧ L.length ≤ c ∧ c ≤ 9223372036854775807
/-- A row of texts of the call's own, made by appending. -/
def AStr (base : Nat) (w : World) (v : Value) (L : List (List UInt8)) : Prop := w.ownsRow base 9 1 v L.length (L.map fun u => Value.string (bs u))
theorem info_str : (Try.prog.info? 9).map (fun i => (i.zero, i.size, i.bytes)) = some (some (.string ⟨#[]⟩), 1, 16) := by kernel_rfl
section
variable {w w' : World} {lo hi base : Nat} {A : Option Addr} {L : List (List UInt8)} {v : Value}
theorem sl_at {j : Nat} (h : j < L.length) : sl L j = L[j] := by simp [sl, List.getD, h]
theorem Srow.keep (h : Srow w lo hi A L) (hk : ∀ k, lo ≤ k → k < hi → w'.heap[k]? = w.heap[k]?) : Srow w' lo hi A L := fun j hj => by
  obtain ⟨b, o, e, h1, h2, hc⟩ := h j hj
  exact ⟨b, o, e, h1, h2, (World.cell?_of_block (w := w) (hk b h1 h2)).trans hc⟩
theorem Srow.mono (h : Srow w lo hi A L) {lo' hi' : Nat} (h1 : lo' ≤ lo) (h2 : hi ≤ hi') : Srow w lo' hi' A L := fun j hj => by
  obtain ⟨b, o, e, a1, a2, hc⟩ := h j hj
  exact ⟨b, o, e, by omega, by omega, hc⟩
theorem Srow.below {B : Nat} (h : Srow w lo hi A L) (hb : Below B w w') (hB : hi ≤ B) : Srow w' lo hi A L := h.keep fun k _ hk => hb.block k (by omega)
theorem Srow.only {lo' hi' : Nat} (h : Srow w lo hi A L) (hb : Only lo' hi' w w') (hs : hi ≤ w.heap.size) (hd : hi ≤ lo' ∨ hi' ≤ lo) : Srow w' lo hi A L := h.keep fun k h1 h2 => hb.block k (by omega) (by omega)
theorem Srow.quiet (h : Srow w lo hi A L) (q : QD w w') : Srow w' lo hi A L := h.keep fun k _ _ => by rw [q.heap]
theorem Srow.nil (w : World) (lo hi : Nat) (A : Option Addr) : Srow w lo hi A [] := fun _ hj => absurd hj (Nat.not_lt_zero _)
theorem SCells.keep {g : Nat} (h : SCells w g L) (hk : w'.heap[g]? = w.heap[g]?) : SCells w' g L := fun j hj =>
  ⟨(World.cell?_of_block (w := w) hk).trans (h j hj).1, (World.frozen?_of_block (w := w) hk).trans (h j hj).2⟩
theorem OStr.row (h : OStr w lo hi A L) : Srow w lo hi A L := by
  rcases h with h | ⟨g, rfl, h1, h2, h3⟩
  · exact fun j hj => by omega
  · exact fun j hj => ⟨g, 0, rfl, h1, h2, by simpa using (h3 j hj).1⟩
theorem OStr.keep (h : OStr w lo hi A L) (hk : ∀ k, lo ≤ k → k < hi → w'.heap[k]? = w.heap[k]?) : OStr w' lo hi A L := by
  rcases h with h | ⟨g, e, h1, h2, h3⟩
  · exact .inl h
  · exact .inr ⟨g, e, h1, h2, h3.keep (hk g h1 h2)⟩
theorem OStr.below {B : Nat} (h : OStr w lo hi A L) (hb : Below B w w') (hB : hi ≤ B) : OStr w' lo hi A L := h.keep fun k _ hk => hb.block k (by omega)
theorem OStr.only {lo' hi' : Nat} (h : OStr w lo hi A L) (hb : Only lo' hi' w w') (hs : hi ≤ w.heap.size) (hd : hi ≤ lo' ∨ hi' ≤ lo) : OStr w' lo hi A L := h.keep fun k h1 h2 => hb.block k (by omega) (by omega)
theorem OStr.mono (h : OStr w lo hi A L) {lo' hi' : Nat} (h1 : lo' ≤ lo) (h2 : hi ≤ hi') : OStr w lo' hi' A L := by
  rcases h with h | ⟨g, e, a1, a2, h3⟩
  · exact .inl h
  · exact .inr ⟨g, e, by omega, by omega, h3⟩
theorem OStr.nil (w : World) (lo hi : Nat) (A : Option Addr) : OStr w lo hi A [] := .inl rfl
theorem AStr.below (h : AStr base w v L) (hb : Below w.heap.size w w') : AStr base w' v L := ownsRow_below h hb
theorem AStr.mono {base' : Nat} (h : AStr base w v L) (hb : base' ≤ base) : AStr base' w v L := ownsRow_mono h hb
theorem AStr.nil_ (base : Nat) (w : World) : AStr base w (.slice none 0 0) [] := World.ownsRow_nil w base _ _
theorem AStr.made (hb : base ≤ w.heap.size) : AStr base (w.alloc (.cells #[] 9)) (.slice (some ⟨w.heap.size, 0, none⟩) 0 0) [] := World.ownsRow_made w #[] 0 hb (by simp [maxLen]) rfl
theorem AStr.belowOf {base0 : Nat} {w1 : World} (h : AStr base w v L) (hg : w.grownBy w1 v.ownBlock) (hb : base0 ≤ base) (hw : base0 ≤ w.heap.size) : Below base0 w w1 :=
  (Below.refl _ _).grown hg hw fun k hk => Nat.le_trans hb (h.lt k hk).1
theorem AStr.ostr (h : AStr base w v L) : ∃ A c, v = .slice A L.length c ∧ L.length ≤ c ∧ c ≤ 9223372036854775807 ∧ OStr w base w.heap.size A L := by
  rcases h.2 with ⟨rfl, h0⟩ | ⟨g, cap, cur, rfl, hg, hh, hc, hm, _, _⟩
  · have : L = [] := List.eq_nil_of_length_eq_zero h0
    subst this
    exact ⟨none, 0, rfl, Nat.le_refl _, by omega, OStr.nil _ _ _ _⟩
  · refine ⟨_, cap, rfl, hc, by rw [maxLen_is] at hm; exact hm, .inr ⟨g, rfl, hg, (Array.getElem?_eq_some_iff.1 hh).1, fun j hj => ⟨?_, ?_⟩⟩⟩
    · have := h.cells (g := g) rfl j (.string (bs (sl L j))) (by simp [hj, sl, List.getD])
      simpa [Addr.add_lit] using this
    · simp [World.frozen?, hh]
theorem AStr.val (h : AStr base w v L) : ∃ A c, v = .slice A L.length c ∧ L.length ≤ c ∧ c ≤ 9223372036854775807 ∧ Srow w base w.heap.size A L := by
  obtain ⟨A, c, e, h1, h2, h3⟩ := h.ostr
  exact ⟨A, c, e, h1, h2, h3.row⟩
end

/-- 'row = append(row, text)'. -/
theorem wp_app_str {ops : Array Oper} {rest : List Oper} {o : Oper} {a : Act} {Q : Exit → Act → World → Prop} {w : World} (hgd : o.guard = none) (s x : Operand)
    (ho : o.op = .call { callee := .builtin .append, args := #[s, x], argTypes := #[39, 39] }) (base : Nat) (v : Value) (L : List (List UInt8)) (q : List UInt8) (c : Nat) (hs : a.eval s = v) (hx : a.eval x = .slice (some ⟨w.heap.size, 0, none⟩) 1 c)
    (hown : AStr base w v L) (hn : L.length ≤ 1048576) (hb : base ≤ w.heap.size)
    (h : ∀ v' w', AStr base w' v' (L ++ [q]) → w.grownBy w' v.ownBlock → wpList Try.prog ops Q rest (a.put o.dst v') w') : wpList Try.prog ops Q (o :: rest) a (w.alloc (.cells #[.string (bs q)] 9)) := by
  obtain ⟨i0, hi0, hz0, hz1, hz2⟩ := info_parts info_str
  refine wpList_append_own _ hgd s x 39 ho base 9 i0 (.string ⟨#[]⟩) 1 16 Try.underlying39 hi0 hz0 hz1 hz2 rfl (by decide) v _ _ hs (hown.alloc _) ⟨w.heap.size, 0, none⟩ 1 c [.string (bs q)] hx rfl
    (World.news_of_block (cs := #[.string (bs q)]) (t := 9) (fr := (0, 0)) (heap_alloc_new _ _)) (by simp [Value.oneCell']) (by rw [maxLen_is]; omega) (by omega) (by simp; omega) ?_
  intro v' w' h1 h2 _
  exact h v' w' (by unfold AStr; simpa using h1) (grown_alloc _ h2)
/-- .. inside a region that draws its order. -/
theorem step_app_str {ops : Array Oper} {o : Oper} {a : Act} {K : Act → World → Prop} {Q : Exit → Act → World → Prop} {E : Prop} {w : World} (hgd : o.guard = none) (s x : Operand)
    (ho : o.op = .call { callee := .builtin .append, args := #[s, x], argTypes := #[39, 39] }) (base : Nat) (v : Value) (L : List (List UInt8)) (q : List UInt8) (c : Nat) (hs : a.eval s = v) (hx : a.eval x = .slice (some ⟨w.heap.size, 0, none⟩) 1 c)
    (hown : AStr base w v L) (hn : L.length ≤ 1048576) (hb : base ≤ w.heap.size)
    (h : ∀ v' w', AStr base w' v' (L ++ [q]) → w.grownBy w' v.ownBlock → K (a.put o.dst v') w') :
    if Region.wanted o (yielded ops a.tmps) = true then Oper.wp Try.prog o a (w.alloc (.cells #[.string (bs q)] 9)) K Q else E := by
  have hw : Region.wanted o (yielded ops a.tmps) = true := by simp [Region.wanted, hgd]
  rw [if_pos hw]
  obtain ⟨i0, hi0, hz0, hz1, hz2⟩ := info_parts info_str
  refine wp_append_own _ s x 39 ho base 9 i0 (.string ⟨#[]⟩) 1 16 Try.underlying39 hi0 hz0 hz1 hz2 rfl (by decide) v _ _ hs (hown.alloc _) ⟨w.heap.size, 0, none⟩ 1 c [.string (bs q)] hx rfl
    (World.news_of_block (cs := #[.string (bs q)]) (t := 9) (fr := (0, 0)) (heap_alloc_new _ _)) (by simp [Value.oneCell']) (by rw [maxLen_is]; omega) (by omega) (by simp; omega) ?_
  intro v' w' h1 h2 _
  exact h v' w' (by unfold AStr; simpa using h1) (grown_alloc _ h2)

set_option maxHeartbeats 400000 in
theorem eqStringS_same (A A2 : Option Addr) (c c2 lo hi lo2 hi2 : Nat) (L : List (List UInt8)) (w : World) (h : Srow w lo hi A L) (h2 : Srow w lo2 hi2 A2 L) (hn : L.length ≤ 1048576) :
    Calls Try.prog 32 #[.slice A L.length c, .slice A2 L.length c2] w fun e w' => e = .returned (.bool true) ∧ QD w w' := by
  go_enter Try.func32, Try.ntmps32
  go_wp2
  go_loopg [5] L.length (fun g i wr => ∃ k : Nat, k ≤ L.length ∧ g = L.length - k ∧ i = .int .i64 k ∧ QD w wr)
  case atStart => exact ⟨0, Nat.zero_le _, rfl, rfl, QD.refl _⟩
  case round =>
    obtain ⟨k, hk, rfl, rfl, hq⟩ := hrel
    by_cases hlt : k < L.length
    · obtain ⟨b, o, rfl, _, _, hc⟩ := (h.quiet hq) k hlt
      obtain ⟨b2, o2, rfl, _, _, hc2⟩ := (h2.quiet hq) k hlt
      have hz : (k : Int) < (L.length : Int) := by omega
      have hz0 : (0 : Int) ≤ (k : Int) := by omega
      go_wp2
      go_quiet (fail)
      go_wp2
      go_roundg (L.length - (k + 1))
      case measure => go_light; omega
      case rel => go_light; exact ⟨k + 1, by omega, rfl, by go_num, hq.drewN _⟩
    · obtain rfl : k = L.length := by omega
      go_wp2
      go_ret
      exact ⟨rfl, hq⟩
set_option maxHeartbeats 400000 in
theorem sameTexts_same (A A2 : Option Addr) (c c2 lo hi lo2 hi2 : Nat) (L : List (List UInt8)) (w : World) (h : Srow w lo hi A L) (h2 : Srow w lo2 hi2 A2 L) (hn : L.length ≤ 1048576) :
    Calls Try.prog 27 #[.slice A L.length c, .slice A2 L.length c2] w fun e w' => e = .returned (.bool true) ∧ QD w w' := by
  go_enter Try.func27, Try.ntmps27
  go_wp2
  go_loopg [5] L.length (fun g i wr => ∃ k : Nat, k ≤ L.length ∧ g = L.length - k ∧ i = .int .i64 k ∧ QD w wr)
  case atStart => exact ⟨0, Nat.zero_le _, rfl, rfl, QD.refl _⟩
  case round =>
    obtain ⟨k, hk, rfl, rfl, hq⟩ := hrel
    by_cases hlt : k < L.length
    · obtain ⟨b, o, rfl, _, _, hc⟩ := (h.quiet hq) k hlt
      obtain ⟨b2, o2, rfl, _, _, hc2⟩ := (h2.quiet hq) k hlt
      have hz : (k : Int) < (L.length : Int) := by omega
      have hz0 : (0 : Int) ≤ (k : Int) := by omega
      go_wp2
      go_quiet (fail)
      go_wp2
      go_roundg (L.length - (k + 1))
      case measure => go_light; omega
      case rel => go_light; exact ⟨k + 1, by omega, rfl, by go_num, hq.drewN _⟩
    · obtain rfl : k = L.length := by omega
      go_wp2
      go_ret
      exact ⟨rfl, hq⟩
end Go.Proofs.Ytnennilpedediaa

namespace Go.Proofs.Ytnennilpedediaa
open Go.RowKit
set_option linter.unusedVariables false


/-- The digits of a number. -/
def mtF : Nat → Nat → List UInt8
  | 0, _ => []
  | f + 1, k => if k = 0 then [] else mtF f (k / 10) ++ [UInt8.ofNat (48 + k % 10)]
theorem mtF_zero : ∀ f, mtF f 0 = []
  | 0 => rfl
  | f + 1 => by simp [mtF]
theorem mtF_succ {f k : Nat} (h : k ≠ 0) : mtF (f + 1) k = mtF f (k / 10) ++ [UInt8.ofNat (48 + k % 10)] := by simp [mtF, h]
theorem len_mtF : ∀ f k, (mtF f k).length ≤ f
  | 0, _ => Nat.le_refl _
  | f + 1, k => by
    by_cases h : k = 0
    · subst h; rw [mtF_zero]; simp
    · rw [mtF_succ h, List.length_append]
      have := len_mtF f (k / 10)
      simp; omega
theorem conv_one (c : UInt8) (x : Int) (hx : x = (c.toNat : Int)) (w : World) : (convert 22 9 (.slice (some ⟨w.heap.size, 0, none⟩) 1 1)).run Try.prog (w.alloc (.cells #[.int .u8 x] 5)) = .ok (.string (bs [c])) (w.alloc (.cells #[.int .u8 x] 5)) := by
  subst hx
  refine run_convert_bytes_back (P := Try.prog) (w.alloc (.cells #[.int .u8 (c.toNat : Int)] 5)) 22 9 5 ⟨w.heap.size, 0, none⟩ 1 [c] Try.underlying22 Try.underlying5 Try.underlying9 fun j hj => ?_
  obtain rfl : j = 0 := by simpa using hj
  simp [Addr.add]
def mtx (k : Nat) : List UInt8 := 109 :: mtF 13 k
set_option maxRecDepth 20000 in
set_option maxHeartbeats 2000000 in
theorem markText_any (k : Nat) (w : World) (h0 : 1 ≤ k) (h1 : k < 10 ^ 13) :
    Calls Try.prog 64 #[.int .i64 k] w fun e w' => e = .returned (.string (bs (mtx k))) ∧ Below w.heap.size w w' := by
  have hk0 : ¬ (k : Int) ≤ 0 := by omega
  go_enter Try.func64, Try.ntmps64
  go_wp2
  go_loopg [0, 3] 13 (fun g i s wr => ∃ (m : Nat) (out : List UInt8), i = .int .i64 m ∧ s = .string (bs out) ∧ Hid (m < 10 ^ g) ∧ Hid (mtF g m ++ out = mtF 13 k) ∧ Hid (g ≤ 13) ∧ Below w.heap.size w wr)
  case atStart => exact ⟨k, [], rfl, rfl, h1, (by show _ = _; simp), Nat.le_refl _, Below.refl _ _⟩
  case round =>
    obtain ⟨m, out, rfl, rfl, hm, hM, hg, hB⟩ := hrel
    by_cases hz : m = 0
    · subst hz
      have HO := hide (show out = mtF 13 k from by have := hM.out; rw [mtF_zero] at this; simpa using this)
      have hl := len_mtF 13 k
      obtain ⟨o, ho⟩ : ∃ o, o = mtF 13 k := ⟨_, rfl⟩
      rw [← ho] at hl HO
      have hadd : ∀ w, (Op.stringOp .add ⟨#[109]⟩ (bs o)).run Try.prog w = .ok (.string (bs ([109] ++ o))) w := fun w => add_bs (P := Try.prog) [109] o (by simp; omega) w
      have HR := hide (show mtx k = [109] ++ o from by unfold mtx; rw [ho]; rfl)
      obtain rfl : out = o := HO.out
      obtain ⟨v, hv⟩ : ∃ v, v = [109] ++ out := ⟨_, rfl⟩
      rw [← hv] at hadd HR
      clear hv ho HO
      go_wp2
      go_ret
      rw [HR.out]
      exact ⟨rfl, hB⟩
    · have hm13 : m < 10 ^ 13 := Nat.lt_of_lt_of_le hm.out (Nat.pow_le_pow_right (by omega) hg.out)
      obtain ⟨f, rfl⟩ : ∃ f, gk = f + 1 := by
        cases gk with
        | zero => exact absurd (show m < 1 from by simpa using hm.out) (by omega)
        | succ f => exact ⟨f, rfl⟩
      have hpos : ¬ (m : Int) ≤ 0 := by omega
      have hpos2 : (m : Int) > 0 := by omega
      have q1 : (m : Int).tmod 10 = ((m % 10 : Nat) : Int) := by rw [Int.tmod_eq_emod_of_nonneg (by omega)]; omega
      have q2 : (m : Int) % 10 = ((m % 10 : Nat) : Int) := by omega
      have q3 : (m : Int) / 10 = ((m / 10 : Nat) : Int) := by omega
      have q4 : (m : Int).tdiv 10 = ((m / 10 : Nat) : Int) := by rw [Int.tdiv_eq_ediv_of_nonneg (by omega)]; omega
      obtain ⟨d, hd⟩ : ∃ d, d = m % 10 := ⟨_, rfl⟩
      have hd9 : d < 10 := by omega
      obtain ⟨q, hq⟩ : ∃ q, q = m / 10 := ⟨_, rfl⟩
      rw [← hd] at q1 q2
      rw [← hq] at q3 q4
      have HN := hide (show q < 10 ^ f from by have := hm.out; rw [Nat.pow_succ] at this; omega)
      have HM := hide (show mtF f q ++ ([UInt8.ofNat (48 + d)] ++ out) = mtF 13 k from by
        have := hM.out
        rw [mtF_succ hz, ← hd, ← hq] at this
        rw [← this]; simp)
      have hol : out.length ≤ 13 := by
        have := congrArg List.length hM.out
        rw [List.length_append] at this
        have := len_mtF 13 k
        omega
      have hcn : (UInt8.ofNat (48 + d)).toNat = 48 + d := by simp; omega
      obtain ⟨c, hc⟩ : ∃ c, c = UInt8.ofNat (48 + d) := ⟨_, rfl⟩
      rw [← hc] at hcn HM
      have hcv := fun w => conv_one c (48 + (d : Int)) (by omega) w
      have hadd := fun w => add_bs (P := Try.prog) [c] out (by simp; omega) w
      obtain ⟨v, hv⟩ : ∃ v, v = [c] ++ out := ⟨_, rfl⟩
      rw [← hv] at hadd HM
      obtain ⟨S1, hS1⟩ : ∃ S1, S1 = bs [c] := ⟨_, rfl⟩
      rw [← hS1] at hadd hcv
      clear hd hq hM hm hc hcn hv hS1
      go_wp2
      go_roundg f
      case measure => go_light; omega
      case rel => go_light; exact ⟨q, v, rfl, rfl, HN.out, HM.out, (show f ≤ 13 from by have := hg.out; omega), hB.alloc hB.size _⟩
def marksS (n k : Nat) : List (List UInt8) := (List.range n).map fun i => mtx (k + i)
theorem len_marksS (n k : Nat) : (marksS n k).length = n := by simp [marksS]
theorem sl_marksS {n j k : Nat} (h : j < n) : sl (marksS n k) j = mtx (k + j) := by simp [sl, marksS, List.getD, h]
set_option maxRecDepth 20000 in
set_option maxHeartbeats 2000000 in
theorem markStringS_any (g c : Nat) (L : List (List UInt8)) (k : Nat) (w : World) (h : SCells w g L) (hg : g < w.heap.size) (hn : L.length ≤ 1048576) (h0 : 1 ≤ k) (h1 : k ≤ 8796093022208) :
    Calls Try.prog 33 #[.slice (some ⟨g, 0, none⟩) L.length c, .int .i64 k] w fun e w' => e = .returned (.int .i64 ((k : Int) + L.length)) ∧ Only g (g + 1) w w' ∧ SCells w' g (marksS L.length k) := by
  go_enter Try.func33, Try.ntmps33
  go_wp2
  go_loopg [5, 1] L.length (fun m i v wr => ∃ p : Nat, p ≤ L.length ∧ Hid (m = L.length - p) ∧ i = .int .i64 p ∧ v = .int .i64 ((k + p : Nat) : Int) ∧ Only g (g + 1) w wr ∧ Hid (∀ j, j < L.length → ∃ z : List UInt8, z = (if j < p then mtx (k + j) else sl L j) ∧ wr.cell? ⟨g, j, none⟩ = some (.string (bs z)) ∧ wr.frozen? ⟨g, j, none⟩ = false))
  case atStart => exact ⟨0, Nat.zero_le _, rfl, rfl, rfl, Only.refl _ _ _, fun j hj => ⟨_, by simp, (h j hj).1, (h j hj).2⟩⟩
  case round =>
    obtain ⟨p, hp, hm, rfl, rfl, hO, hC⟩ := hrel
    have hgr := Nat.lt_of_lt_of_le hg hO.size
    by_cases hlt : p < L.length
    · obtain ⟨z, hz, hc, hf⟩ := hC.out p hlt
      clear hz
      have hk13 : k + p < 10 ^ 13 := by omega
      go_wp2_with fail
      refine (markText_any (k + p) _ (by omega) hk13).mono ?_
      rintro e w1 ⟨rfl, b1⟩
      have hc1 := (b1.cell (p := ⟨g, p, none⟩) hgr).trans hc
      have hf1 : w1.frozen? ⟨g, p, none⟩ = false := (World.frozen?_of_block (b1.block g hgr)).trans hf
      have HK := hide (fun (j : Nat) => (⟨World.cell?_of_block (b1.block g hgr), World.frozen?_of_block (b1.block g hgr)⟩ : w1.cell? ⟨g, j, none⟩ = wr.cell? ⟨g, j, none⟩ ∧ w1.frozen? ⟨g, j, none⟩ = wr.frozen? ⟨g, j, none⟩))
      have O1 := hO.trans (Only.of_below (B := g) (hi := g + 1) b1)
      obtain ⟨M, hM⟩ : ∃ M, M = mtx (k + p) := ⟨_, rfl⟩
      rw [← hM]
      have HM := hide hM
      have hkp : ((k + p : Nat) : Int) + 1 = ((k + (p + 1) : Nat) : Int) := by omega
      clear hM hc hf b1 hO
      go_wp2
      go_roundg (L.length - (p + 1))
      case measure => go_light; have := hm.out; omega
      case rel => go_light; exact ⟨p + 1, by omega, rfl, by go_num, congrArg (Value.int .i64) (by omega), O1.setCell (p := ⟨g, p, none⟩) (Nat.le_refl _) (by show g < g + 1; omega) _, fun j hj => by
        by_cases e : j = p
        · subst e
          refine ⟨mtx (k + j), by rw [if_pos (by omega)], ?_, ?_⟩
          · rw [← HM.out]; exact cell_set_same hc1
          · rw [frozen_set]; exact hf1
        · obtain ⟨y, hy, hcy, hfy⟩ := hC.out j hj
          refine ⟨y, ?_, ?_, ?_⟩
          · rw [hy]
            by_cases hlt2 : j < p
            · rw [if_pos hlt2, if_pos (by omega)]
            · rw [if_neg hlt2, if_neg (by omega)]
          · rw [World.cell?_setCell_other _ _ _ _ (fun e2 => e (by injection e2 with _ h2 _; exact h2.symm)), (HK.out j).1]; exact hcy
          · rw [frozen_set, (HK.out j).2]; exact hfy⟩
    · obtain rfl : p = L.length := by omega
      go_wp2
      go_ret
      refine ⟨ret_int (by simp), hO, fun j hj => ?_⟩
      rw [len_marksS] at hj
      obtain ⟨z, hz, hc, hf⟩ := hC.out j hj
      rw [sl_marksS hj, hc, hz, if_pos hj]
      exact ⟨rfl, hf⟩
theorem markStr_any (A : Option Addr) (c lo hi : Nat) (L : List (List UInt8)) (k : Nat) (w : World) (h : OStr w lo hi A L) (hh : hi ≤ w.heap.size) (hn : L.length ≤ 1048576) (h0 : 1 ≤ k) (h1 : k ≤ 8796093022208) :
    Calls Try.prog 33 #[.slice A L.length c, .int .i64 k] w fun e w' => e = .returned (.int .i64 ((k : Int) + L.length)) ∧ Only lo hi w w' ∧ OStr w' lo hi A (marksS L.length k) := by
  rcases h with h | ⟨g, rfl, h2, h3, h4⟩
  · have hx : L = [] := List.eq_nil_of_length_eq_zero h
    subst hx
    go_enter Try.func33, Try.ntmps33
    go_wp2
    go_loopg [5, 1] 1 (fun m i v wr => i = .int .i64 0 ∧ v = .int .i64 (k : Nat) ∧ w = wr)
    case atStart => exact ⟨rfl, rfl, rfl⟩
    case round =>
      obtain ⟨rfl, rfl, rfl⟩ := hrel
      go_wp2
      go_ret
      exact ⟨ret_int (by simp), Only.refl _ _ _, .inl (by simp [marksS])⟩
  · refine (markStringS_any g c L k w h4 (by omega) hn h0 h1).mono ?_
    rintro e w' ⟨rfl, hO, hC⟩
    exact ⟨rfl, hO.mono h2 (by omega), .inr ⟨g, rfl, h2, h3, hC⟩⟩
set_option maxRecDepth 20000 in
set_option maxHeartbeats 4000000 in
theorem heldStringS_any (A : Option Addr) (c lo hi n k : Nat) (w : World) (h : Srow w lo hi A (marksS n k)) (hh : hi ≤ w.heap.size) (hn : n ≤ 1048576) (h0 : 1 ≤ k) (h1 : k ≤ 8796093022208) :
    Calls Try.prog 34 #[.slice A n c, .int .i64 k] w fun e w' => e = .returned (.int .i64 ((k : Int) + n)) ∧ Below w.heap.size w w' := by
  go_enter Try.func34, Try.ntmps34
  go_wp2
  go_loopg [5, 1] n (fun m i v wr => ∃ p : Nat, p ≤ n ∧ Hid (m = n - p) ∧ i = .int .i64 p ∧ v = .int .i64 ((k + p : Nat) : Int) ∧ Below w.heap.size w wr)
  case atStart => exact ⟨0, Nat.zero_le _, rfl, rfl, rfl, Below.refl _ _⟩
  case round =>
    obtain ⟨p, hp, hm, rfl, rfl, hB⟩ := hrel
    by_cases hlt : p < n
    · obtain ⟨b, o, rfl, _, hbh, hc⟩ := h p (by rw [len_marksS]; exact hlt)
      rw [sl_marksS hlt] at hc
      have hk13 : k + p < 10 ^ 13 := by omega
      have hkp : ((k + p : Nat) : Int) + 1 = ((k + (p + 1) : Nat) : Int) := by omega
      have hpi : (p : Int) < (n : Int) := by omega
      have hMT := hide (fun W => markText_any (k + p) W (by omega) hk13)
      obtain ⟨M, hM⟩ : ∃ M, M = mtx (k + p) := ⟨_, rfl⟩
      rw [← hM] at hc hMT
      have MK := hide (fun (W : World) (hW : Below w.heap.size w W) => (⟨(hW.cell (p := ⟨b, o + p, none⟩) (by show b < _; omega)).trans hc, hW⟩ : W.cell? ⟨b, o + p, none⟩ = some (.string (bs M)) ∧ Below w.heap.size w W))
      clear hM hc hk13
      obtain ⟨K, hK⟩ : ∃ K, K = k + p := ⟨_, rfl⟩
      rw [← hK] at hkp hMT
      rw [← hK]
      have HKE := hide hK
      clear hK
      go_wp2
      go_region_held3 (fun W => W.cell? ⟨b, o + p, none⟩ = some (.string (bs M)) ∧ Below w.heap.size w W)
        (first
          | exact MK.out _ (hB.drew)
          | (go_split_ands
             exact MK.out _ (Below.trans (by assumption) (Below.mono (by assumption) (Below.size (by assumption))))))
        (first
          | (go_at_call 64
             refine (hMT.out _).mono ?_
             rintro e wj ⟨rfl, hbj⟩))
      rename_i hHeld
      obtain ⟨_, hB1⟩ := hHeld
      go_wp2
      go_roundg (n - (p + 1))
      case measure => go_light; have := hm.out; omega
      case rel => go_light; exact ⟨p + 1, by omega, rfl, by go_num, congrArg (Value.int .i64) (by have := HKE.out; omega), hB1⟩
    · obtain rfl : p = n := by omega
      go_wp2
      go_ret
      exact ⟨ret_int (by simp), hB⟩
end Go.Proofs.Ytnennilpedediaa
