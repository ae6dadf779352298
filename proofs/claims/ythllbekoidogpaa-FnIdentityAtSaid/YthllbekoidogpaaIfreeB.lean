/-  -/
import Derived.Test.YthllbekoidogpaaFreeP
import Derived.Test.YthllbekoidogpaaMadeS
import Derived.Test.YthllbekoidogpaaSeq
import Derived.Shelf.Abstract
import Derived.Shelf.RegionOpen
import Derived.RangeFuncLeaves
import Derived.WalkKit
import Derived.OwnWalkIn
import Derived.TacticsInMore
import Derived.LoopNIn
import Derived.LoopIn
import Derived.Test.YthllbekoidogpaaStrMark
import Derived.Maps.OwnIn
namespace Go.Proofs.Ythllbekoidogpaa
open Go.RowKit
set_option linter.unusedVariables false

/-- The numbers of the letters of a set. -/
def numN (s : Nat) : List Nat := (List.range 3).filter fun i => s.testBit i
/-- Each letter with each word of the other ones. -/
def lwF (g : Nat → List (List UInt8)) (s : Nat) : List (List UInt8 × List UInt8) := (numN s).flatMap fun i => (g (s - 2 ^ i)).map fun u => ([lx i], u)
/-- A head with its letter, a letter with its tail. -/
def glue (p q : List UInt8 × List UInt8) : List UInt8 := p.2 ++ p.1 ++ q.1 ++ q.2
/-- The full words, as they come. -/
def fwF : Nat → Nat → List (List UInt8)
  | 0, _ => []
  | f + 1, s => if (numN s).length = 1 then [[lx ((numN s).headD 0)]] else (lwF (fwF f) s).flatMap fun p => (lwF (fwF f) s).map (glue p)
/-- .. of the sets below k + 1. -/
def allF : Nat → List (List UInt8)
  | 0 => []
  | k + 1 => allF k ++ fwF 3 (k + 1)
theorem thk_num {s : Nat} (h : s < 8) : thk s 9 = (numN s).map fun i : Nat => (i : Int) := by
  have hh : ∀ s : Fin 8, thk s 9 = (numN s).map fun i : Nat => (i : Int) := by decide +kernel
  exact hh ⟨s, h⟩
theorem num_lt {s i : Nat} (h : i ∈ numN s) : i < 3 ∧ s.testBit i = true := by
  unfold numN at h
  rw [List.mem_filter, List.mem_range] at h
  exact h
theorem num_some {s : Nat} (h1 : 1 ≤ s) (h : s < 8) : 0 < (numN s).length := by
  have hh : ∀ s : Fin 8, 1 ≤ (s : Nat) → 0 < (numN s).length := by decide
  exact hh ⟨s, h⟩ h1
theorem num_other {s i : Nat} (h : s < 8) (hi : i ∈ numN s) (hn : (numN s).length ≠ 1) : 1 ≤ s - 2 ^ i ∧ s - 2 ^ i < 8 ∧ (numN (s - 2 ^ i)).length + 1 = (numN s).length := by
  have hh : ∀ (s : Fin 8) (i : Fin 3), (i : Nat) ∈ numN s → (numN s).length ≠ 1 → 1 ≤ (s : Nat) - 2 ^ (i : Nat) ∧ (s : Nat) - 2 ^ (i : Nat) < 8 ∧ (numN ((s : Nat) - 2 ^ (i : Nat))).length + 1 = (numN s).length := by decide
  exact hh ⟨s, h⟩ ⟨i, (num_lt hi).1⟩ hi hn
theorem num_le {s : Nat} (h : s < 8) : (numN s).length ≤ 3 := by
  have hh : ∀ s : Fin 8, (numN s).length ≤ 3 := by decide
  exact hh ⟨s, h⟩
theorem srt_congr {L M : List (List UInt8)} (h : L.Perm M) : srt L = srt M := srt_unique ((srt_perm L).trans h) (by rw [len_srt]; exact srt_sorted L)
theorem fw_perm {s : Nat} (h1 : 1 ≤ s) (h : s < 8) : (fwF 3 s).Perm (fullF 3 s) := by
  have hh : ∀ s : Fin 8, 1 ≤ (s : Nat) → (fwF 3 s).isPerm (fullF 3 s) = true := by decide +kernel
  exact List.isPerm_iff.1 (hh ⟨s, h⟩ h1)
theorem all_perm : ∀ k, k < 8 → (allF k).Perm (allC k)
  | 0, _ => List.Perm.refl _
  | k + 1, h => (all_perm k (by omega)).append (fw_perm (by omega) h)
theorem srt_fw {s : Nat} (h1 : 1 ≤ s) (h : s < 8) : srt (fwF 3 s) = fullL (s : Int) := by
  rw [fullL_ok h1 (by omega)]
  exact srt_congr (fw_perm h1 h)
theorem srt_all {m : Nat} (h1 : 1 ≤ m) (h : m ≤ 3) : srt (allF (2 ^ m - 1)) = allW (m : Int) := by
  rw [allW_ok h1 h]
  refine srt_congr (all_perm _ ?_)
  have : 2 ^ m ≤ 2 ^ 3 := Nat.pow_le_pow_right (by omega) h
  omega
theorem fw_len {s : Nat} (h1 : 1 ≤ s) (h : s < 8) : 0 < (fwF 3 s).length ∧ (fwF 3 s).length ≤ 144 := by
  rw [(fw_perm h1 h).length_eq]
  exact ⟨full_ne h1 (by omega), full_len (by omega)⟩
theorem all_len {k : Nat} (h1 : 1 ≤ k) (h : k < 8) : 0 < (allF k).length ∧ (allF k).length ≤ 159 := by
  refine ⟨?_, by rw [(all_perm k h).length_eq]; exact len_allC k h⟩
  obtain ⟨j, rfl⟩ : ∃ j, k = j + 1 := ⟨k - 1, by omega⟩
  have := (fw_len (s := j + 1) (by omega) h).1
  simp only [allF, List.length_append]
  omega
theorem fw_short {f : Nat} (hf : f < 4) {s : Nat} (h : s < 8) : ∀ u, u ∈ fwF f s → u.length ≤ 10 := by
  have hh : ∀ (f : Fin 4) (s : Fin 8), ((fwF f s).all fun u => decide (u.length ≤ 10)) = true := by decide +kernel
  intro u hu
  have := List.all_eq_true.1 (hh ⟨f, hf⟩ ⟨s, h⟩) u hu
  simpa using this
theorem andNot_bit {s i : Nat} (hs : s < 8) (hi : i < 3) (hb : s.testBit i = true) : bits .andNot .i64 (s : Int) ((2 ^ i : Nat) : Int) = ((s - 2 ^ i : Nat) : Int) := by
  have hh : ∀ (s : Fin 8) (i : Fin 3), (s : Nat).testBit i = true → bits .andNot .i64 ((s : Nat) : Int) ((2 ^ (i : Nat) : Nat) : Int) = (((s : Nat) - 2 ^ (i : Nat) : Nat) : Int) := by decide +kernel
  exact hh ⟨s, hs⟩ ⟨i, hi⟩ hb

end Go.Proofs.Ythllbekoidogpaa

namespace Go.Proofs.Ythllbekoidogpaa
open Go.RowKit
set_option linter.unusedVariables false
set_option linter.unusedSimpArgs false
attribute [local go_sem] Oper.semAt_some

/-- The mark of a loop over a function among the deferred calls. -/
def markD (r : Nat) : Deferred := { target := .collected r, args := #[] }
theorem leaves_marks {n : Nat} {P : Program} {fn : Func} {tmps : Array Value} {R : Ending → World → Prop} : ∀ (rs : List Nat) (V : World), rs.Nodup → (∀ r ∈ rs, V.heap[r]? = some (.deferred (some []))) →
    (∀ V', Below 0 V V' → (∀ b, b ∉ rs → V'.heap[b]? = V.heap[b]?) → LeavesIn Fence.wide n P fn tmps R [] .returning V') → LeavesInM Fence.wide n P fn tmps R (rs.map markD) .returning V
  | [], V, _, _, h => h V (Below.refl _ _) fun _ _ => rfl
  | r :: rs, V, hn, hd, h => by
    have hr := hd r (List.mem_cons_self ..)
    rw [List.nodup_cons] at hn
    refine ⟨by simp, .inl ⟨r, _, rfl, run_takeDeferred hr, leaves_marks rs _ hn.2 (fun q hq => ?_) fun V' hb hs => h V' ((below_put0 _ _ _).trans hb) fun b hb' => ?_⟩⟩
    · exact (World.putObj_heap_other (by rintro rfl; exact hn.1 hq)).trans (hd q (List.mem_cons_of_mem _ hq))
    · rw [List.mem_cons, not_or] at hb'
      exact (hs b hb'.2).trans (World.putObj_heap_other hb'.1)
/-- Blocks of one's own, which no round writes. -/
def Mine (O : List Nat) (w2 : World) (Y : Nat → Prop) (V : World) : Prop := ∀ b ∈ O, V.heap[b]? = w2.heap[b]? ∧ ¬ Y b
section
variable {O : List Nat} {w2 V V' : World} {Y Y' : Nat → Prop}
theorem Mine.keep (h : Mine O w2 Y V) (hk : ∀ b ∈ O, V'.heap[b]? = V.heap[b]?) : Mine O w2 Y V' := fun b hb => ⟨(hk b hb).trans (h b hb).1, (h b hb).2⟩
theorem Mine.kept {n : Nat} (h : Mine O w2 Y V) (hO : ∀ b ∈ O, b < n) (hk : Kept n Y V V') : Mine O w2 Y V' := h.keep fun b hb => hk.same b (hO b hb) (h b hb).2
theorem Mine.grow {n : Nat} (h : Mine O w2 Y V) (hO : ∀ b ∈ O, b < n) (hg : ∀ b, Y' b → Y b ∨ n ≤ b) : Mine O w2 Y' V := fun b hb => ⟨(h b hb).1, fun k => by
  rcases hg b k with k | k
  · exact (h b hb).2 k
  · have := hO b hb; omega⟩
theorem Mine.lt (h : Mine O w2 Y V) {b : Nat} (hb : b ∈ O) (h2 : b < w2.heap.size) : b < V.heap.size := by
  have e := (h b hb).1
  rw [Array.getElem?_eq_getElem h2] at e
  exact (Array.getElem?_eq_some_iff.1 e).1
/-- The caller's invariant, and one's own blocks. -/
theorem rests_mine {α β : Type} {B : Nat} {J : List α → (Nat → Prop) → World → Prop} (F : List β → List α) (hJ : Rests B J) (hB : B ≤ w2.heap.size) (hO : ∀ b ∈ O, b < w2.heap.size) :
    Rests w2.heap.size (fun (s : List β) (Y : Nat → Prop) (V : World) => J (F s) Y V ∧ Mine O w2 Y V) :=
  ⟨fun h => hJ.there h.1, fun h hl hs => ⟨hJ.move h.1 hl (fun b hb hlt => hs b (hb.imp (fun k => by omega) id) hlt), h.2.keep fun b hb => hs b (.inl (hO b hb)) (h.2.lt hb (hO b hb))⟩⟩
end
/-- A world without any block. -/
def bare (w : World) : World := { w with heap := #[] }
theorem below_bare (w : World) : Below (bare w).heap.size (bare w) w := ⟨rfl, rfl, rfl, Nat.zero_le _, fun k hk => absurd hk (Nat.not_lt_zero _)⟩
theorem anyDepth {m m' : Nat} {P : Program} {l : Nat} {args : Array Value} {W : World} {R : Ending → World → Prop} (h : YieldAt Fence.wide m P l args W R) : YieldAt Fence.wide m' P l args W R := by
  obtain ⟨fn, tmps, assign, body, hy, hR⟩ := h
  exact ⟨fn, tmps, assign, body, hy, hR.1, fun c cs _ => hR.2 c cs (by simp [Fence.room, Fence.wide])⟩

/-- What has come when k letters are done. -/
def lwK (g : Nat → List (List UInt8)) (s k : Nat) : List (List UInt8 × List UInt8) := ((numN s).take k).flatMap fun i => (g (s - 2 ^ i)).map fun u => ([lx i], u)
theorem lwK_all (g : Nat → List (List UInt8)) (s : Nat) : lwK g s (numN s).length = lwF g s := by unfold lwK lwF; rw [List.take_length]
theorem lwK_succ (g : Nat → List (List UInt8)) {s k : Nat} (h : k < (numN s).length) : lwK g s (k + 1) = lwK g s k ++ (g (s - 2 ^ (numN s).getD k 0)).map fun u => ([lx ((numN s).getD k 0)], u) := by
  unfold lwK
  rw [List.take_succ_eq_append_getElem h, List.flatMap_append, List.flatMap_cons, List.flatMap_nil, List.append_nil]
  simp [List.getD, h]
theorem lwK_pre (g : Nat → List (List UInt8)) {s k : Nat} (h : k < (numN s).length) : lwK g s (k + 1) <+: lwF g s := by
  unfold lwK lwF
  conv => rhs; rw [← List.take_append_drop (k + 1) (numN s), List.flatMap_append]
  exact List.prefix_append _ _

theorem lwK_step (g : Nat → List (List UInt8)) {s k i : Nat} {t : List (List UInt8)} {u : List UInt8} (h : k < (numN s).length) (hi : i = (numN s).getD k 0) (hp : t ++ [u] <+: g (s - 2 ^ i)) :
    (lwK g s k ++ t.map fun u => ([lx i], u)) ++ [([lx i], u)] <+: lwF g s := by
  refine List.IsPrefix.trans ?_ (lwK_pre g h)
  rw [lwK_succ g h, ← hi, List.append_assoc]
  refine (List.prefix_append_right_inj _).2 ?_
  have := hp.map fun u => ([lx i], u)
  rwa [List.map_append] at this
/-- A round that has gone well, told of one's own loop. -/
theorem ends_go {α β : Type} {J : List α → (Nat → Prop) → World → Prop} {Ix : List β → (Nat → Prop) → World → Prop} (F : List β → List α) {O : List Nat} {V2 U2 U3 U4 : World} {Z Z4 : Nat → Prop} {nU : Nat} {t : List β} {u : β} {x : α} (hF : F (t ++ [u]) = F t ++ [x])
    (hM : Mine O V2 Z U2) (hO : ∀ b ∈ O, b < V2.heap.size) (hh : U3.heap = U2.heap) (hn : nU = U2.heap.size) (hb : Below 0 U2 U3) (hg : ∀ b, Z4 b → Z b ∨ U3.heap.size ≤ b) (hk : Kept U3.heap.size Z U3 U4) (hj : J (F t ++ [x]) Z4 U4) (act : Act) :
    Ends (fun s Y V => J (F s) Y V ∧ Mine O V2 Y V) Ix (t ++ [u]) Z nU U2 .normal act U4 := by
  subst hn
  have hz : U3.heap.size = U2.heap.size := by rw [hh]
  rw [hz] at hg hk
  have hM3 : Mine O V2 Z U3 := hM.keep fun b _ => by rw [hh]
  have hO2 : ∀ b ∈ O, b < U2.heap.size := fun b hb => hM.lt hb (hO b hb)
  refine ⟨Z4, hg, ⟨hb.trans hk.low, fun b hb hx => (hk.same b hb hx).trans (by rw [hh])⟩, by rw [hF]; exact hj, (hM3.kept hO2 hk).grow hO2 hg⟩
theorem ends_ret {α β : Type} {Jx : List α → (Nat → Prop) → World → Prop} {I : List β → (Nat → Prop) → World → Prop} (F : List β → List α) {O : List Nat} {V2 U2 U3 U4 : World} {Z Z4 : Nat → Prop} {nU : Nat} {t : List β} {u : β} {x : α} (hF : F (t ++ [u]) = F t ++ [x])
    (hM : Mine O V2 Z U2) (hO : ∀ b ∈ O, b < V2.heap.size) (hh : U3.heap = U2.heap) (hn : nU = U2.heap.size) (hb : Below 0 U2 U3) (hg : ∀ b, Z4 b → Z b ∨ U3.heap.size ≤ b) (hk : Kept U3.heap.size Z U3 U4) (hj : Jx (F t ++ [x]) Z4 U4) (act : Act) :
    Ends I (fun s Y V => Jx (F s) Y V ∧ Mine O V2 Y V) (t ++ [u]) Z nU U2 .ret act U4 := ends_go (J := Jx) (Ix := I) F hF hM hO hh hn hb hg hk hj act
theorem below_drew0 (w : World) : Below 0 w w.drew := (Below.refl 0 w).drew

end Go.Proofs.Ythllbekoidogpaa

namespace Go.Proofs.Ythllbekoidogpaa
open Go.RowKit
set_option linter.unusedVariables false
set_option linter.unusedSimpArgs false
attribute [local go_sem] Oper.semAt_some

/-- 'row = append(row, text)', inside a fence; where the row then lies. -/
theorem wpListIn_app_str {F : Fence} {n : Nat} {ops : Array Oper} {rest : List Oper} {o : Oper} {a : Act} {Q : Exit → Act → World → Prop} {w : World} (hgd : o.guard = none) (s x : Operand)
    (ho : o.op = .call { callee := .builtin .append, args := #[s, x], argTypes := #[69, 69] }) (base : Nat) (v : Value) (L : List (List UInt8)) (q : List UInt8) (c : Nat) (hs : a.eval s = v) (hx : a.eval x = .slice (some ⟨w.heap.size, 0, none⟩) 1 c)
    (hown : AStr base w v L) (hn : L.length ≤ 1048576) (hb : base ≤ w.heap.size)
    (h : ∀ v' w', AStr base w' v' (L ++ [q]) → (w.alloc (.cells #[.string (bs q)] 9)).grownBy w' v.ownBlock → (v'.ownBlock = v.ownBlock ∨ v'.ownBlock = some (w.heap.size + 1)) → wpListIn F n Try.prog ops Q rest (a.put o.dst v') w') :
    wpListIn F n Try.prog ops Q (o :: rest) a (w.alloc (.cells #[.string (bs q)] 9)) := by
  obtain ⟨i0, hi0, hz0, hz1, hz2⟩ := info_parts info_str
  refine wpListIn_append_own_at _ hgd s x 69 ho base 9 i0 (.string ⟨#[]⟩) 1 16 Try.underlying69 hi0 hz0 hz1 hz2 rfl (by decide) v _ _ hs (hown.alloc _) ⟨w.heap.size, 0, none⟩ 1 c [.string (bs q)] hx rfl
    (World.news_of_block (cs := #[.string (bs q)]) (t := 9) (fr := (0, 0)) (heap_alloc_new _ _)) (by simp [Value.oneCell']) (by rw [maxLen_is]; omega) (by omega) (by simp; omega) ?_
  intro v' w' h1 h2 _ h4
  have e : (w.alloc (.cells #[.string (bs q)] 9)).heap.size = w.heap.size + 1 := by simp
  rw [e] at h4
  exact h v' w' (by unfold AStr; simpa using h1) h2 h4
theorem AStr.same {base : Nat} {V V' : World} {v : Value} {L : List (List UInt8)} (h : AStr base V v L) (hk : ∀ b, v.ownBlock = some b → V'.heap[b]? = V.heap[b]?) : AStr base V' v L := by
  refine ⟨h.1, ?_⟩
  rcases h.2 with h | ⟨g, cap, cur, rfl, hg, hh, hr⟩
  · exact .inl h
  · exact .inr ⟨g, cap, cur, rfl, hg, (hk g rfl).trans hh, hr⟩
/-- What is collected: the row lies in a box at the head of the call's own blocks; it and the box are all that a round writes. -/
def Coll (w : World) (t : List (List UInt8)) (Y : Nat → Prop) (V : World) : Prop :=
  ∃ v, Boxed V w.heap.size 69 v ∧ AStr w.heap.size V v t ∧ Below w.heap.size w V ∧ ∀ b, Y b ↔ (b = w.heap.size ∨ v.ownBlock = some b)
theorem rests_coll (w : World) (B : Nat) (hB : w.heap.size ≤ B) : Rests B (Coll w) :=
  ⟨fun h b hb => by
    obtain ⟨v, h1, h2, h3, h4⟩ := h
    rcases (h4 b).1 hb with rfl | hb
    · exact h1.lt
    · exact (h2.lt b hb).2,
   fun {s X A A'} h hl hs => by
    obtain ⟨v, h1, h2, h3, h4⟩ := h
    refine ⟨v, (hs _ (.inr ((h4 _).2 (.inl rfl))) h1.lt).trans h1, h2.same fun b hb => hs b (.inr ((h4 b).2 (.inr hb))) (h2.lt b hb).2, ⟨h3.os |> hl.os.trans, hl.tape.trans h3.tape, hl.output.trans h3.output, Nat.le_trans h3.size hl.size, fun k hk => (hs k (.inl (by omega)) (by have := h3.size; omega)).trans (h3.block k hk)⟩, h4⟩⟩

end Go.Proofs.Ythllbekoidogpaa
