/-  -/
import Derived.Test.YtjmjfmgbfjmaaaaIfreeA
import Derived.Test.YtjmjfmgbfjmaaaaSeq
import Derived.Shelf.Abstract
import Derived.Shelf.RegionOpen
import Derived.RangeFuncLeaves
import Derived.WalkKit
import Derived.OwnWalkIn
import Derived.TacticsInMore
import Derived.LoopNIn
import Derived.LoopIn
import Derived.Test.YtjmjfmgbfjmaaaaStrMark
import Derived.Maps.OwnIn
namespace Go.Proofs.Ytjmjfmgbfjmaaaa
open Go.RowKit
set_option linter.unusedVariables false
set_option linter.unusedSimpArgs false
attribute [local go_sem] Oper.semAt_some

/-- The mark of a loop over a function among the deferred calls. -/
def markD (r : Nat) : Deferred := { target := .collected r, args := #[] }
theorem leaves_marks {n : Nat} {P : Program} {fn : Func} {tmps : Array Value} {R : Ending → World → Prop} : ∀ (rs : List Nat) (V : World), rs.Nodup → (∀ r ∈ rs, V.heap[r]? = some (.deferred (some []))) →
    (∀ V', Below 0 V V' → (∀ b, b ∉ rs → V'.heap[b]? = V.heap[b]?) → LeavesIn Fence.wide n P fn tmps R [] .returning V') → LeavesInM Fence.wide n P fn tmps R (rs.map markD) .returning V
  | [], V, _, _, h => h V (Below.refl _ _) fun _ _ => rfl
  | r :: rs, V, hn, hd, h => by
    have hr := hd r (List.mem_cons_self ..)
    rw [List.nodup_cons] at hn
    refine ⟨by simp, .inl ⟨r, _, rfl, run_takeDeferred hr, leaves_marks rs _ hn.2 (fun q hq => ?_) fun V' hb hs => h V' ((below_put0 _ _ _).trans hb) fun b hb' => ?_⟩⟩
    · exact (World.putObj_heap_other (by rintro rfl; exact hn.1 hq)).trans (hd q (List.mem_cons_of_mem _ hq))
    · rw [List.mem_cons, not_or] at hb'
      exact (hs b hb'.2).trans (World.putObj_heap_other hb'.1)
/-- Blocks of one's own, which no round writes. -/
def Mine (O : List Nat) (w2 : World) (Y : Nat → Prop) (V : World) : Prop := ∀ b ∈ O, V.heap[b]? = w2.heap[b]? ∧ ¬ Y b
section
variable {O : List Nat} {w2 V V' : World} {Y Y' : Nat → Prop}
theorem Mine.keep (h : Mine O w2 Y V) (hk : ∀ b ∈ O, V'.heap[b]? = V.heap[b]?) : Mine O w2 Y V' := fun b hb => ⟨(hk b hb).trans (h b hb).1, (h b hb).2⟩
theorem Mine.kept {n : Nat} (h : Mine O w2 Y V) (hO : ∀ b ∈ O, b < n) (hk : Kept n Y V V') : Mine O w2 Y V' := h.keep fun b hb => hk.same b (hO b hb) (h b hb).2
theorem Mine.grow {n : Nat} (h : Mine O w2 Y V) (hO : ∀ b ∈ O, b < n) (hg : ∀ b, Y' b → Y b ∨ n ≤ b) : Mine O w2 Y' V := fun b hb => ⟨(h b hb).1, fun k => by
  rcases hg b k with k | k
  · exact (h b hb).2 k
  · have := hO b hb; omega⟩
theorem Mine.lt (h : Mine O w2 Y V) {b : Nat} (hb : b ∈ O) (h2 : b < w2.heap.size) : b < V.heap.size := by
  have e := (h b hb).1
  rw [Array.getElem?_eq_getElem h2] at e
  exact (Array.getElem?_eq_some_iff.1 e).1
/-- The caller's invariant, and one's own blocks. -/
theorem rests_mine {α β : Type} {B : Nat} {J : List α → (Nat → Prop) → World → Prop} (F : List β → List α) (hJ : Rests B J) (hB : B ≤ w2.heap.size) (hO : ∀ b ∈ O, b < w2.heap.size) :
    Rests w2.heap.size (fun (s : List β) (Y : Nat → Prop) (V : World) => J (F s) Y V ∧ Mine O w2 Y V) :=
  ⟨fun h => hJ.there h.1, fun h hl hs => ⟨hJ.move h.1 hl (fun b hb hlt => hs b (hb.imp (fun k => by omega) id) hlt), h.2.keep fun b hb => hs b (.inl (hO b hb)) (h.2.lt hb (hO b hb))⟩⟩
end
/-- A world without any block. -/
def bare (w : World) : World := { w with heap := #[] }
theorem below_bare (w : World) : Below (bare w).heap.size (bare w) w := ⟨rfl, rfl, rfl, Nat.zero_le _, fun k hk => absurd hk (Nat.not_lt_zero _)⟩
theorem anyDepth {m m' : Nat} {P : Program} {l : Nat} {args : Array Value} {W : World} {R : Ending → World → Prop} (h : YieldAt Fence.wide m P l args W R) : YieldAt Fence.wide m' P l args W R := by
  obtain ⟨fn, tmps, assign, body, hy, hR⟩ := h
  exact ⟨fn, tmps, assign, body, hy, hR.1, fun c cs _ => hR.2 c cs (by simp [Fence.room, Fence.wide])⟩

/-- What has come when k letters are done. -/
def lwK (g : Nat → List (List UInt8)) (s k : Nat) : List (List UInt8 × List UInt8) := ((numN s).take k).flatMap fun i => (g (s - 2 ^ i)).map fun u => ([lx i], u)
theorem lwK_all (g : Nat → List (List UInt8)) (s : Nat) : lwK g s (numN s).length = lwF g s := by unfold lwK lwF; rw [List.take_length]
theorem lwK_succ (g : Nat → List (List UInt8)) {s k : Nat} (h : k < (numN s).length) : lwK g s (k + 1) = lwK g s k ++ (g (s - 2 ^ (numN s).getD k 0)).map fun u => ([lx ((numN s).getD k 0)], u) := by
  unfold lwK
  rw [List.take_succ_eq_append_getElem h, List.flatMap_append, List.flatMap_cons, List.flatMap_nil, List.append_nil]
  simp [List.getD, h]
theorem lwK_pre (g : Nat → List (List UInt8)) {s k : Nat} (h : k < (numN s).length) : lwK g s (k + 1) <+: lwF g s := by
  unfold lwK lwF
  conv => rhs; rw [← List.take_append_drop (k + 1) (numN s), List.flatMap_append]
  exact List.prefix_append _ _

theorem lwK_step (g : Nat → List (List UInt8)) {s k i : Nat} {t : List (List UInt8)} {u : List UInt8} (h : k < (numN s).length) (hi : i = (numN s).getD k 0) (hp : t ++ [u] <+: g (s - 2 ^ i)) :
    (lwK g s k ++ t.map fun u => ([lx i], u)) ++ [([lx i], u)] <+: lwF g s := by
  refine List.IsPrefix.trans ?_ (lwK_pre g h)
  rw [lwK_succ g h, ← hi, List.append_assoc]
  refine (List.prefix_append_right_inj _).2 ?_
  have := hp.map fun u => ([lx i], u)
  rwa [List.map_append] at this
/-- A round that has gone well, told of one's own loop. -/
theorem ends_go {α β : Type} {J : List α → (Nat → Prop) → World → Prop} {Ix : List β → (Nat → Prop) → World → Prop} (F : List β → List α) {O : List Nat} {V2 U2 U3 U4 : World} {Z Z4 : Nat → Prop} {nU : Nat} {t : List β} {u : β} {x : α} (hF : F (t ++ [u]) = F t ++ [x])
    (hM : Mine O V2 Z U2) (hO : ∀ b ∈ O, b < V2.heap.size) (hh : U3.heap = U2.heap) (hn : nU = U2.heap.size) (hb : Below 0 U2 U3) (hg : ∀ b, Z4 b → Z b ∨ U3.heap.size ≤ b) (hk : Kept U3.heap.size Z U3 U4) (hj : J (F t ++ [x]) Z4 U4) (act : Act) :
    Ends (fun s Y V => J (F s) Y V ∧ Mine O V2 Y V) Ix (t ++ [u]) Z nU U2 .normal act U4 := by
  subst hn
  have hz : U3.heap.size = U2.heap.size := by rw [hh]
  rw [hz] at hg hk
  have hM3 : Mine O V2 Z U3 := hM.keep fun b _ => by rw [hh]
  have hO2 : ∀ b ∈ O, b < U2.heap.size := fun b hb => hM.lt hb (hO b hb)
  refine ⟨Z4, hg, ⟨hb.trans hk.low, fun b hb hx => (hk.same b hb hx).trans (by rw [hh])⟩, by rw [hF]; exact hj, (hM3.kept hO2 hk).grow hO2 hg⟩
theorem ends_ret {α β : Type} {Jx : List α → (Nat → Prop) → World → Prop} {I : List β → (Nat → Prop) → World → Prop} (F : List β → List α) {O : List Nat} {V2 U2 U3 U4 : World} {Z Z4 : Nat → Prop} {nU : Nat} {t : List β} {u : β} {x : α} (hF : F (t ++ [u]) = F t ++ [x])
    (hM : Mine O V2 Z U2) (hO : ∀ b ∈ O, b < V2.heap.size) (hh : U3.heap = U2.heap) (hn : nU = U2.heap.size) (hb : Below 0 U2 U3) (hg : ∀ b, Z4 b → Z b ∨ U3.heap.size ≤ b) (hk : Kept U3.heap.size Z U3 U4) (hj : Jx (F t ++ [x]) Z4 U4) (act : Act) :
    Ends I (fun s Y V => Jx (F s) Y V ∧ Mine O V2 Y V) (t ++ [u]) Z nU U2 .ret act U4 := ends_go (J := Jx) (Ix := I) F hF hM hO hh hn hb hg hk hj act
theorem below_drew0 (w : World) : Below 0 w w.drew := (Below.refl 0 w).drew

set_option maxRecDepth 100000 in
set_option maxHeartbeats 4000000 in
theorem letters_hands (s : Nat) (h1 : 1 ≤ s) (hs : s < 8) (g : Nat → List (List UInt8))
    (hin : ∀ i, i ∈ numN s → ∀ w, Hands Try.prog 52 (fun l => #[.int .i64 (s - 2 ^ i : Nat)] ++ #[.func (.yield l) #[] #[]] ++ #[]) (fun u : List UInt8 => #[.string (bs u)]) (g (s - 2 ^ i)) w) (w : World) :
    Hands Try.prog 86 (fun l => #[.int .i64 s] ++ #[.func (.yield l) #[] #[]] ++ #[]) (fun p : List UInt8 × List UInt8 => #[.string (bs p.1), .string (bs p.2)]) (lwF g s) w := by
  intro l J Jx X W hW hX hJ hJx h0 hY m
  have HIN := hide hin
  have HY := hide hY
  have HT := hide (thk_num hs)
  have HN := hide (num_some h1 hs)
  obtain ⟨W0, hW0⟩ : ∃ W0, W0 = W.alloc (.cells #[.func (.yield l) #[] #[]] 97) := ⟨_, rfl⟩
  have b0 : Below W.heap.size W W0 := by rw [hW0]; exact (Below.refl W.heap.size W).alloc (Nat.le_refl _) _
  have e0 : W0.heap[W.heap.size]? = some (.cells #[.func (.yield l) #[] #[]] 97) := by rw [hW0]; exact heap_alloc_new W _
  have z0 : W0.heap.size = W.heap.size + 1 := by rw [hW0]; simp
  have HW0 := hide hW0
  clear hW0 hY hin
  refine callsIn_of_wp_marks Try.func86 rfl trivial ?_ rfl
  simp only [Try.ntmps86, List.size_toArray, List.length_cons, List.length_nil, Nat.reduceAdd, Nat.reduceSub, Array.replicate_succ, Array.replicate_zero, List.push_toArray, List.append_toArray, List.nil_append, List.cons_append]
  gi_wp2
  rw [← HW0.out]
  gi_wp2_with fail
  refine ⟨trivial, (fun hd => by simp [Fence.wide] at hd), (callsIn_wide.2 (thingsIn_any s W0 (by omega))).mono ?_⟩
  rintro e w1 ⟨A, c, rfl, b1, hR, _, _⟩
  have hL : (thk s 9).length = (numN s).length := by rw [HT.out, List.length_map]
  obtain ⟨bn, on, rfl, hbn1, hbn2, _⟩ := hR 0 (by rw [hL]; exact HN.out)
  have hR2 : ∀ k, k < (numN s).length → w1.cell? ⟨bn, on + k, none⟩ = some (.int .i64 ((numN s).getD k 0 : Nat)) := fun k hk => by
    obtain ⟨b', o', e1, _, _, hc⟩ := hR k (by rw [hL]; exact hk)
    obtain ⟨e2, e3⟩ : bn = b' ∧ on = o' := by simpa using e1
    subst e2 e3
    rw [hc, HT.out]
    simp [el, List.getD, hk]
  have B1 : Below W.heap.size W w1 := b0.trans (b1.mono (by omega))
  have hj1 : J [] X w1 := hJ.move h0 (B1.mono (Nat.zero_le _)) (fun b hb hlt => B1.block b hlt)
  have e1 : w1.heap[W.heap.size]? = some (.cells #[.func (.yield l) #[] #[]] 97) := (b1.block _ (by omega)).trans e0
  have hX1 : ∀ b, X b → b < W.heap.size := hJ.there h0
  have hM1 : Mine [W.heap.size, bn] w1 X w1 := fun b hb => ⟨rfl, fun k => by
    have := hX1 b k
    simp only [List.mem_cons, List.not_mem_nil, or_false] at hb
    omega⟩
  have hs1 := b1.size
  have HR := hide hR2
  rw [hL]
  obtain ⟨n, hn⟩ : ∃ n, n = (numN s).length := ⟨_, rfl⟩
  rw [← hn]
  have HNN := hide hn
  clear hR hL hR2 hn HT hX1
  gi_wp2
  refine wpIn_loop (fun a V => ∃ (k : Nat) (rs : List Nat) (Y : Nat → Prop) (v5 v11 v12 v13 v14 v15 v16 v17 v25 : Value), k ≤ n ∧
      a = { tmps := #[.int .i64 s, .func (.yield l) #[] #[], undef, .pointer (some ⟨W.heap.size, 0, none⟩), undef, v5, undef, .int .i64 s, .slice (some ⟨bn, on, none⟩) n c, .int .i64 n, .int .i64 k, v11, v12, v13, v14, v15, v16, v17, undef, undef, undef, undef, undef, undef, undef, v25], defers := rs.map markD } ∧
      Hid (J (lwK g s k) Y V ∧ Mine [W.heap.size, bn] w1 Y V ∧ rs.Nodup ∧ ∀ r ∈ rs, V.heap[r]? = some (.deferred (some [])) ∧ ¬ Y r ∧ W.heap.size ≤ r))
    (fun a _ => n - (intOf (a.tmps.getD 10 undef)).toNat) ⟨0, [], X, undef, undef, undef, undef, undef, undef, undef, undef, undef, Nat.zero_le _, rfl, hj1, hM1, List.nodup_nil, fun r hr => by cases hr⟩ ?_
  rintro a V ⟨k, rs, Y, v5, v11, v12, v13, v14, v15, v16, v17, v25, hk, rfl, HI⟩
  clear hj1 hM1
  by_cases hlt : k < n
  · have hki : (k : Int) < (n : Int) := by omega
    obtain ⟨hj, hm, hnd, hd⟩ := HI.out
    obtain ⟨i, hi⟩ : ∃ i, i = (numN s).getD k 0 := ⟨_, rfl⟩
    have himem : i ∈ numN s := by
      rw [hi, List.getD_eq_getElem?_getD, List.getElem?_eq_getElem (by rw [← HNN.out]; exact hlt)]
      exact List.getElem_mem _
    have hi3 := (num_lt himem).1
    have hib := (num_lt himem).2
    have hcell : V.cell? ⟨bn, on + k, none⟩ = some (.int .i64 (i : Nat)) := by
      rw [hi]
      exact (World.cell?_of_block (w := w1) (hm bn (by simp)).1).trans (HR.out k (by rw [← HNN.out]; exact hlt))
    have HII := hide hi
    have HJ := hide (And.intro hj (And.intro hm (And.intro hnd hd)))
    have HIB := hide hib
    clear hi hj hm hnd hd HI hib
    gi_wp2
    refine ⟨trivial, (fun hd => by simp [Fence.wide] at hd), (callsIn_wide.2 (without_any s i _ hs hi3 HIB.out)).mono ?_⟩
    rintro e w2 ⟨rfl, rfl⟩
    gi_wp2
    obtain ⟨V2, hV2⟩ : ∃ V2, V2 = V.alloc (.cells #[.int .i64 (i : Nat)] 3) := ⟨_, rfl⟩
    rw [← hV2]
    have bV : Below V.heap.size V V2 := by rw [hV2]; exact (Below.refl _ V).alloc (Nat.le_refl _) _
    have zV : V2.heap.size = V.heap.size + 1 := by rw [hV2]; simp
    have eN : V2.heap[V.heap.size]? = some (.cells #[.int .i64 (i : Nat)] 3) := by rw [hV2]; exact heap_alloc_new V _
    obtain ⟨hj, hm, hnd, hd⟩ := HJ.out
    have hsW := hW.size
    have lW : W.heap.size < V.heap.size := hm.lt (by simp) (by omega)
    have lB : bn < V.heap.size := hm.lt (by simp) hbn2
    have hrl : ∀ r ∈ rs, r < V.heap.size := fun r hr => (Array.getElem?_eq_some_iff.1 (hd r hr).1).1
    obtain ⟨O, hO⟩ : ∃ O, O = W.heap.size :: bn :: V.heap.size :: rs := ⟨_, rfl⟩
    have hOl : ∀ b ∈ O, b < V2.heap.size := fun b hb => by
      rw [hO] at hb
      rcases List.mem_cons.1 hb with rfl | hb
      · omega
      rcases List.mem_cons.1 hb with rfl | hb
      · omega
      rcases List.mem_cons.1 hb with rfl | hb
      · omega
      have := hrl b hb; omega
    have hYl : ∀ b, Y b → b < V.heap.size := hJ.there hj
    have hM2 : Mine O V2 Y V2 := fun b hb => ⟨rfl, fun k => by
      rw [hO] at hb
      rcases List.mem_cons.1 hb with rfl | hb
      · exact (hm _ (by simp)).2 k
      rcases List.mem_cons.1 hb with rfl | hb
      · exact (hm _ (by simp)).2 k
      rcases List.mem_cons.1 hb with rfl | hb
      · have := hYl _ k; omega
      exact (hd b hb).2.1 k⟩
    have hj2 : J (lwK g s k) Y V2 := hJ.move hj (bV.mono (Nat.zero_le _)) (fun b _ hlt => bV.block b hlt)
    have mB : bn ∈ O := by rw [hO]; simp
    have mW : W.heap.size ∈ O := by rw [hO]; simp
    have mN : V.heap.size ∈ O := by rw [hO]; simp
    have mr : ∀ r ∈ rs, r ∈ O := fun r hr => by rw [hO]; simp [hr]
    have hWy : V2.heap[W.heap.size]? = some (.cells #[.func (.yield l) #[] #[]] 97) := (bV.block _ lW).trans ((hm _ (by simp)).1.trans e1)
    have hr2 : ∀ r ∈ rs, V2.heap[r]? = some (.deferred (some [])) := fun r hr => (bV.block r (hrl r hr)).trans (hd r hr).1
    have hrW : ∀ r ∈ rs, W.heap.size ≤ r := fun r hr => (hd r hr).2.2
    have hBb : V2.heap[bn]? = w1.heap[bn]? := (bV.block _ lB).trans (hm bn (by simp)).1
    have HWv := hide hV2
    have HO := hide hO
    have HND := hide hnd
    have hk' : k < (numN s).length := by rw [← HNN.out]; exact hlt
    have HP := hide (fun (t : List (List UInt8)) (u : List UInt8) (hp : t ++ [u] <+: g (s - 2 ^ i)) => lwK_step g hk' HII.out hp)
    have HS := hide (lwK_succ g hk')
    clear hV2 hO hj hm hd hnd HJ hcell hk'
    refine range_top (α := List UInt8) (gf := 52) (fa := #[.int .i64 (s - 2 ^ i : Nat)]) (lb := #[]) (enc := fun u => #[.string (bs u)]) (xs := g (s - 2 ^ i)) (w0 := bare V2) rfl (enters_of Try.func52 (by kernel_rfl) rfl) (fun _ => rfl)
      (HIN.out i himem (bare V2)) (below_bare V2) (fun t Z U => J (lwK g s k ++ t.map fun u => ([lx i], u)) Z U ∧ Mine O V2 Z U) (fun t Z U => Jx (lwK g s k ++ t.map fun u => ([lx i], u)) Z U ∧ Mine O V2 Z U) Y
      (rests_mine (fun t => lwK g s k ++ t.map fun u => ([lx i], u)) hJ (by omega) hOl) (rests_mine (fun t => lwK g s k ++ t.map fun u => ([lx i], u)) hJx (by omega) hOl) (fun b hb => Nat.zero_le _) ⟨by rw [List.map_nil, List.append_nil]; exact hj2, hM2⟩ ?round ?done ?stop
    case round =>
      intro l1 m1 hl1 t u Z U hI nX ltU hpre
      clear hj2 hM2
      have HI1 := hide hI
      clear hI
      gi_wp2
      refine ⟨Kept.refl _ _ _, fun U2 r hb2 hz2 ho2 hl2 hi2 => ?_⟩
      clear HI1
      obtain ⟨hJ2, hM2⟩ := hi2
      have hmx : Try.prog.follows .mixedOrders = true := by kernel_rfl
      gi_wp2
      refine wpIn_region_any hmx ?_
      change wpAnyIn _ _ _ _ _ _ _ _ _ (World.drew _)
      obtain ⟨U3, hU3⟩ : ∃ U3, U3 = World.drew U2 := ⟨_, rfl⟩
      rw [← hU3]
      have hh : U3.heap = U2.heap := by rw [hU3]; rfl
      have hb3 : Below 0 U2 U3 := by rw [hU3]; exact below_drew0 U2
      have cY : U3.cell? ⟨W.heap.size, 0, none⟩ = some (.func (.yield l) #[] #[]) := by
        rw [cell_of_row U3 W.heap.size 0 _ _ _ ((show U3.heap[W.heap.size]? = U2.heap[W.heap.size]? by rw [hh]).trans ((hM2 _ mW).1.trans hWy))]; rfl
      have cN : U3.cell? ⟨V.heap.size, 0, none⟩ = some (.int .i64 (i : Nat)) := by
        rw [cell_of_row U3 V.heap.size 0 _ _ _ ((show U3.heap[V.heap.size]? = U2.heap[V.heap.size]? by rw [hh]).trans ((hM2 _ mN).1.trans eN))]; rfl
      obtain ⟨fn', tm', as', bd', hy, hR⟩ := HY.out _ _ Z U3 (m1 - 1) (hJ.move hJ2 hb3 (fun b _ _ => by rw [hh])) (HP.out t u hpre)
      dsimp only at hy
      have HG := hide (fun U4 Z4 h1 h2 h3 act => ends_go (J := J) (Ix := fun t Z U => Jx (lwK g s k ++ t.map fun u => ([lx i], u)) Z U ∧ Mine O V2 Z U) (fun t => lwK g s k ++ t.map fun u => ([lx i], u)) (t := t) (u := u) (x := ([lx i], u)) (U4 := U4) (Z4 := Z4) (by rw [List.map_append, ← List.append_assoc]; rfl) hM2 hOl hh hz2.symm hb3 h1 h2 h3 act)
      have HX := hide (fun U4 Z4 h1 h2 h3 act => ends_ret (Jx := Jx) (I := fun t Z U => J (lwK g s k ++ t.map fun u => ([lx i], u)) Z U ∧ Mine O V2 Z U) (fun t => lwK g s k ++ t.map fun u => ([lx i], u)) (t := t) (u := u) (x := ([lx i], u)) (U4 := U4) (Z4 := Z4) (by rw [List.map_append, ← List.append_assoc]; rfl) hM2 hOl hh hz2.symm hb3 h1 h2 h3 act)
      have HRR := hide hR
      clear hU3 hR hJ2 hM2 ho2 hb2 hl2 hb3
      refine wpAnyIn_ready (rs := [0, 1, 3]) (by kernel_rfl) (by simp) ?_
      refine AllReadyIn.cons rfl (fun K hK => ?_) ?_
      · go_simp
        refine hK _ _ ?_
        clear hK K
        refine wpAnyIn_ready (rs := [1, 3]) (by kernel_rfl) (by simp) ?_
        refine AllReadyIn.cons rfl (fun K hK => ?_) ?_
        · go_simp
          refine hK _ _ ?_
          clear hK K
          refine wpAnyIn_ready (rs := [2, 3]) (by kernel_rfl) (by simp) ?_
          refine AllReadyIn.cons rfl (fun K hK => ?_) ?_
          · go_simp
            refine ⟨trivial, (fun hd => by simp [Fence.wide] at hd), ?_⟩
            refine (CallsIn.inRound _ (callsIn_wide.2 (letterAt_any i U3 hi3))).mono ?_
            rintro e w3 ⟨rfl, rfl⟩
            refine hK _ _ ?_
            clear hK K
            refine wpAnyIn_ready (rs := [3]) (by kernel_rfl) (by simp) ?_
            refine AllReadyIn.cons rfl (fun K hK => ?_) ?_
            · go_simp
              refine hK _ _ ?_
              clear hK K
              refine wpAnyIn_ready (rs := [4]) (by kernel_rfl) (by simp) ?_
              refine AllReadyIn.cons rfl (fun K hK => ?_) ?_
              · go_simp
                refine ⟨(fun hd => by simp [Fence.wide] at hd), RoundIn.mono (show RoundIn (Fence.wide.inRound l1) (m1 - 1) _ _ _ _ _ _ _ _ from HRR.out) ?_⟩
                rintro e U4 ⟨Z4, hg4, hk4, ⟨rfl, hj4⟩ | ⟨rfl, hj4⟩⟩
                · skip
                  refine hK _ _ ?_
                  clear hK K
                  refine wpAnyIn_ready (rs := [5]) (by kernel_rfl) (by simp) ?_
                  refine AllReadyIn.cons rfl (fun K hK => ?_) ?_
                  · go_simp
                    refine hK _ _ ?_
                    clear hK K
                    refine wpAnyIn_done (by kernel_rfl) ?_ _
                    gi_wp2
                    exact HG.out U4 Z4 hg4 hk4 hj4 _
                  exact AllReadyIn.nil
                · skip
                  refine hK _ _ ?_
                  clear hK K
                  refine wpAnyIn_ready (rs := [5]) (by kernel_rfl) (by simp) ?_
                  refine AllReadyIn.cons rfl (fun K hK => ?_) ?_
                  · go_simp
                    refine hK _ _ ?_
                    clear hK K
                    refine wpAnyIn_done (by kernel_rfl) ?_ _
                    gi_wp2
                    exact HX.out U4 Z4 hg4 hk4 hj4 _
                  exact AllReadyIn.nil
              exact AllReadyIn.nil
            exact AllReadyIn.nil
          refine AllReadyIn.cons rfl (fun K hK => ?_) ?_
          · go_simp
            refine hK _ _ ?_
            clear hK K
            refine wpAnyIn_ready (rs := [2]) (by kernel_rfl) (by simp) ?_
            refine AllReadyIn.cons rfl (fun K hK => ?_) ?_
            · go_simp
              refine ⟨trivial, (fun hd => by simp [Fence.wide] at hd), ?_⟩
              refine (CallsIn.inRound _ (callsIn_wide.2 (letterAt_any i U3 hi3))).mono ?_
              rintro e w3 ⟨rfl, rfl⟩
              refine hK _ _ ?_
              clear hK K
              refine wpAnyIn_ready (rs := [4]) (by kernel_rfl) (by simp) ?_
              refine AllReadyIn.cons rfl (fun K hK => ?_) ?_
              · go_simp
                refine ⟨(fun hd => by simp [Fence.wide] at hd), RoundIn.mono (show RoundIn (Fence.wide.inRound l1) (m1 - 1) _ _ _ _ _ _ _ _ from HRR.out) ?_⟩
                rintro e U4 ⟨Z4, hg4, hk4, ⟨rfl, hj4⟩ | ⟨rfl, hj4⟩⟩
                · skip
                  refine hK _ _ ?_
                  clear hK K
                  refine wpAnyIn_ready (rs := [5]) (by kernel_rfl) (by simp) ?_
                  refine AllReadyIn.cons rfl (fun K hK => ?_) ?_
                  · go_simp
                    refine hK _ _ ?_
                    clear hK K
                    refine wpAnyIn_done (by kernel_rfl) ?_ _
                    gi_wp2
                    exact HG.out U4 Z4 hg4 hk4 hj4 _
                  exact AllReadyIn.nil
                · skip
                  refine hK _ _ ?_
                  clear hK K
                  refine wpAnyIn_ready (rs := [5]) (by kernel_rfl) (by simp) ?_
                  refine AllReadyIn.cons rfl (fun K hK => ?_) ?_
                  · go_simp
                    refine hK _ _ ?_
                    clear hK K
                    refine wpAnyIn_done (by kernel_rfl) ?_ _
                    gi_wp2
                    exact HX.out U4 Z4 hg4 hk4 hj4 _
                  exact AllReadyIn.nil
              exact AllReadyIn.nil
            exact AllReadyIn.nil
          exact AllReadyIn.nil
        refine AllReadyIn.cons rfl (fun K hK => ?_) ?_
        · go_simp
          refine hK _ _ ?_
          clear hK K
          refine wpAnyIn_ready (rs := [1]) (by kernel_rfl) (by simp) ?_
          refine AllReadyIn.cons rfl (fun K hK => ?_) ?_
          · go_simp
            refine hK _ _ ?_
            clear hK K
            refine wpAnyIn_ready (rs := [2]) (by kernel_rfl) (by simp) ?_
            refine AllReadyIn.cons rfl (fun K hK => ?_) ?_
            · go_simp
              refine ⟨trivial, (fun hd => by simp [Fence.wide] at hd), ?_⟩
              refine (CallsIn.inRound _ (callsIn_wide.2 (letterAt_any i U3 hi3))).mono ?_
              rintro e w3 ⟨rfl, rfl⟩
              refine hK _ _ ?_
              clear hK K
              refine wpAnyIn_ready (rs := [4]) (by kernel_rfl) (by simp) ?_
              refine AllReadyIn.cons rfl (fun K hK => ?_) ?_
              · go_simp
                refine ⟨(fun hd => by simp [Fence.wide] at hd), RoundIn.mono (show RoundIn (Fence.wide.inRound l1) (m1 - 1) _ _ _ _ _ _ _ _ from HRR.out) ?_⟩
                rintro e U4 ⟨Z4, hg4, hk4, ⟨rfl, hj4⟩ | ⟨rfl, hj4⟩⟩
                · skip
                  refine hK _ _ ?_
                  clear hK K
                  refine wpAnyIn_ready (rs := [5]) (by kernel_rfl) (by simp) ?_
                  refine AllReadyIn.cons rfl (fun K hK => ?_) ?_
                  · go_simp
                    refine hK _ _ ?_
                    clear hK K
                    refine wpAnyIn_done (by kernel_rfl) ?_ _
                    gi_wp2
                    exact HG.out U4 Z4 hg4 hk4 hj4 _
                  exact AllReadyIn.nil
                · skip
                  refine hK _ _ ?_
                  clear hK K
                  refine wpAnyIn_ready (rs := [5]) (by kernel_rfl) (by simp) ?_
                  refine AllReadyIn.cons rfl (fun K hK => ?_) ?_
                  · go_simp
                    refine hK _ _ ?_
                    clear hK K
                    refine wpAnyIn_done (by kernel_rfl) ?_ _
                    gi_wp2
                    exact HX.out U4 Z4 hg4 hk4 hj4 _
                  exact AllReadyIn.nil
              exact AllReadyIn.nil
            exact AllReadyIn.nil
          exact AllReadyIn.nil
        exact AllReadyIn.nil
      refine AllReadyIn.cons rfl (fun K hK => ?_) ?_
      · go_simp
        refine hK _ _ ?_
        clear hK K
        refine wpAnyIn_ready (rs := [0, 2, 3]) (by kernel_rfl) (by simp) ?_
        refine AllReadyIn.cons rfl (fun K hK => ?_) ?_
        · go_simp
          refine hK _ _ ?_
          clear hK K
          refine wpAnyIn_ready (rs := [2, 3]) (by kernel_rfl) (by simp) ?_
          refine AllReadyIn.cons rfl (fun K hK => ?_) ?_
          · go_simp
            refine ⟨trivial, (fun hd => by simp [Fence.wide] at hd), ?_⟩
            refine (CallsIn.inRound _ (callsIn_wide.2 (letterAt_any i U3 hi3))).mono ?_
            rintro e w3 ⟨rfl, rfl⟩
            refine hK _ _ ?_
            clear hK K
            refine wpAnyIn_ready (rs := [3]) (by kernel_rfl) (by simp) ?_
            refine AllReadyIn.cons rfl (fun K hK => ?_) ?_
            · go_simp
              refine hK _ _ ?_
              clear hK K
              refine wpAnyIn_ready (rs := [4]) (by kernel_rfl) (by simp) ?_
              refine AllReadyIn.cons rfl (fun K hK => ?_) ?_
              · go_simp
                refine ⟨(fun hd => by simp [Fence.wide] at hd), RoundIn.mono (show RoundIn (Fence.wide.inRound l1) (m1 - 1) _ _ _ _ _ _ _ _ from HRR.out) ?_⟩
                rintro e U4 ⟨Z4, hg4, hk4, ⟨rfl, hj4⟩ | ⟨rfl, hj4⟩⟩
                · skip
                  refine hK _ _ ?_
                  clear hK K
                  refine wpAnyIn_ready (rs := [5]) (by kernel_rfl) (by simp) ?_
                  refine AllReadyIn.cons rfl (fun K hK => ?_) ?_
                  · go_simp
                    refine hK _ _ ?_
                    clear hK K
                    refine wpAnyIn_done (by kernel_rfl) ?_ _
                    gi_wp2
                    exact HG.out U4 Z4 hg4 hk4 hj4 _
                  exact AllReadyIn.nil
                · skip
                  refine hK _ _ ?_
                  clear hK K
                  refine wpAnyIn_ready (rs := [5]) (by kernel_rfl) (by simp) ?_
                  refine AllReadyIn.cons rfl (fun K hK => ?_) ?_
                  · go_simp
                    refine hK _ _ ?_
                    clear hK K
                    refine wpAnyIn_done (by kernel_rfl) ?_ _
                    gi_wp2
                    exact HX.out U4 Z4 hg4 hk4 hj4 _
                  exact AllReadyIn.nil
              exact AllReadyIn.nil
            exact AllReadyIn.nil
          refine AllReadyIn.cons rfl (fun K hK => ?_) ?_
          · go_simp
            refine hK _ _ ?_
            clear hK K
            refine wpAnyIn_ready (rs := [2]) (by kernel_rfl) (by simp) ?_
            refine AllReadyIn.cons rfl (fun K hK => ?_) ?_
            · go_simp
              refine ⟨trivial, (fun hd => by simp [Fence.wide] at hd), ?_⟩
              refine (CallsIn.inRound _ (callsIn_wide.2 (letterAt_any i U3 hi3))).mono ?_
              rintro e w3 ⟨rfl, rfl⟩
              refine hK _ _ ?_
              clear hK K
              refine wpAnyIn_ready (rs := [4]) (by kernel_rfl) (by simp) ?_
              refine AllReadyIn.cons rfl (fun K hK => ?_) ?_
              · go_simp
                refine ⟨(fun hd => by simp [Fence.wide] at hd), RoundIn.mono (show RoundIn (Fence.wide.inRound l1) (m1 - 1) _ _ _ _ _ _ _ _ from HRR.out) ?_⟩
                rintro e U4 ⟨Z4, hg4, hk4, ⟨rfl, hj4⟩ | ⟨rfl, hj4⟩⟩
                · skip
                  refine hK _ _ ?_
                  clear hK K
                  refine wpAnyIn_ready (rs := [5]) (by kernel_rfl) (by simp) ?_
                  refine AllReadyIn.cons rfl (fun K hK => ?_) ?_
                  · go_simp
                    refine hK _ _ ?_
                    clear hK K
                    refine wpAnyIn_done (by kernel_rfl) ?_ _
                    gi_wp2
                    exact HG.out U4 Z4 hg4 hk4 hj4 _
                  exact AllReadyIn.nil
                · skip
                  refine hK _ _ ?_
                  clear hK K
                  refine wpAnyIn_ready (rs := [5]) (by kernel_rfl) (by simp) ?_
                  refine AllReadyIn.cons rfl (fun K hK => ?_) ?_
                  · go_simp
                    refine hK _ _ ?_
                    clear hK K
                    refine wpAnyIn_done (by kernel_rfl) ?_ _
                    gi_wp2
                    exact HX.out U4 Z4 hg4 hk4 hj4 _
                  exact AllReadyIn.nil
              exact AllReadyIn.nil
            exact AllReadyIn.nil
          exact AllReadyIn.nil
        refine AllReadyIn.cons rfl (fun K hK => ?_) ?_
        · go_simp
          refine ⟨trivial, (fun hd => by simp [Fence.wide] at hd), ?_⟩
          refine (CallsIn.inRound _ (callsIn_wide.2 (letterAt_any i U3 hi3))).mono ?_
          rintro e w3 ⟨rfl, rfl⟩
          refine hK _ _ ?_
          clear hK K
          refine wpAnyIn_ready (rs := [0, 3]) (by kernel_rfl) (by simp) ?_
          refine AllReadyIn.cons rfl (fun K hK => ?_) ?_
          · go_simp
            refine hK _ _ ?_
            clear hK K
            refine wpAnyIn_ready (rs := [3]) (by kernel_rfl) (by simp) ?_
            refine AllReadyIn.cons rfl (fun K hK => ?_) ?_
            · go_simp
              refine hK _ _ ?_
              clear hK K
              refine wpAnyIn_ready (rs := [4]) (by kernel_rfl) (by simp) ?_
              refine AllReadyIn.cons rfl (fun K hK => ?_) ?_
              · go_simp
                refine ⟨(fun hd => by simp [Fence.wide] at hd), RoundIn.mono (show RoundIn (Fence.wide.inRound l1) (m1 - 1) _ _ _ _ _ _ _ _ from HRR.out) ?_⟩
                rintro e U4 ⟨Z4, hg4, hk4, ⟨rfl, hj4⟩ | ⟨rfl, hj4⟩⟩
                · skip
                  refine hK _ _ ?_
                  clear hK K
                  refine wpAnyIn_ready (rs := [5]) (by kernel_rfl) (by simp) ?_
                  refine AllReadyIn.cons rfl (fun K hK => ?_) ?_
                  · go_simp
                    refine hK _ _ ?_
                    clear hK K
                    refine wpAnyIn_done (by kernel_rfl) ?_ _
                    gi_wp2
                    exact HG.out U4 Z4 hg4 hk4 hj4 _
                  exact AllReadyIn.nil
                · skip
                  refine hK _ _ ?_
                  clear hK K
                  refine wpAnyIn_ready (rs := [5]) (by kernel_rfl) (by simp) ?_
                  refine AllReadyIn.cons rfl (fun K hK => ?_) ?_
                  · go_simp
                    refine hK _ _ ?_
                    clear hK K
                    refine wpAnyIn_done (by kernel_rfl) ?_ _
                    gi_wp2
                    exact HX.out U4 Z4 hg4 hk4 hj4 _
                  exact AllReadyIn.nil
              exact AllReadyIn.nil
            exact AllReadyIn.nil
          refine AllReadyIn.cons rfl (fun K hK => ?_) ?_
          · go_simp
            refine hK _ _ ?_
            clear hK K
            refine wpAnyIn_ready (rs := [0]) (by kernel_rfl) (by simp) ?_
            refine AllReadyIn.cons rfl (fun K hK => ?_) ?_
            · go_simp
              refine hK _ _ ?_
              clear hK K
              refine wpAnyIn_ready (rs := [4]) (by kernel_rfl) (by simp) ?_
              refine AllReadyIn.cons rfl (fun K hK => ?_) ?_
              · go_simp
                refine ⟨(fun hd => by simp [Fence.wide] at hd), RoundIn.mono (show RoundIn (Fence.wide.inRound l1) (m1 - 1) _ _ _ _ _ _ _ _ from HRR.out) ?_⟩
                rintro e U4 ⟨Z4, hg4, hk4, ⟨rfl, hj4⟩ | ⟨rfl, hj4⟩⟩
                · skip
                  refine hK _ _ ?_
                  clear hK K
                  refine wpAnyIn_ready (rs := [5]) (by kernel_rfl) (by simp) ?_
                  refine AllReadyIn.cons rfl (fun K hK => ?_) ?_
                  · go_simp
                    refine hK _ _ ?_
                    clear hK K
                    refine wpAnyIn_done (by kernel_rfl) ?_ _
                    gi_wp2
                    exact HG.out U4 Z4 hg4 hk4 hj4 _
                  exact AllReadyIn.nil
                · skip
                  refine hK _ _ ?_
                  clear hK K
                  refine wpAnyIn_ready (rs := [5]) (by kernel_rfl) (by simp) ?_
                  refine AllReadyIn.cons rfl (fun K hK => ?_) ?_
                  · go_simp
                    refine hK _ _ ?_
                    clear hK K
                    refine wpAnyIn_done (by kernel_rfl) ?_ _
                    gi_wp2
                    exact HX.out U4 Z4 hg4 hk4 hj4 _
                  exact AllReadyIn.nil
              exact AllReadyIn.nil
            exact AllReadyIn.nil
          exact AllReadyIn.nil
        refine AllReadyIn.cons rfl (fun K hK => ?_) ?_
        · go_simp
          refine hK _ _ ?_
          clear hK K
          refine wpAnyIn_ready (rs := [0, 2]) (by kernel_rfl) (by simp) ?_
          refine AllReadyIn.cons rfl (fun K hK => ?_) ?_
          · go_simp
            refine hK _ _ ?_
            clear hK K
            refine wpAnyIn_ready (rs := [2]) (by kernel_rfl) (by simp) ?_
            refine AllReadyIn.cons rfl (fun K hK => ?_) ?_
            · go_simp
              refine ⟨trivial, (fun hd => by simp [Fence.wide] at hd), ?_⟩
              refine (CallsIn.inRound _ (callsIn_wide.2 (letterAt_any i U3 hi3))).mono ?_
              rintro e w3 ⟨rfl, rfl⟩
              refine hK _ _ ?_
              clear hK K
              refine wpAnyIn_ready (rs := [4]) (by kernel_rfl) (by simp) ?_
              refine AllReadyIn.cons rfl (fun K hK => ?_) ?_
              · go_simp
                refine ⟨(fun hd => by simp [Fence.wide] at hd), RoundIn.mono (show RoundIn (Fence.wide.inRound l1) (m1 - 1) _ _ _ _ _ _ _ _ from HRR.out) ?_⟩
                rintro e U4 ⟨Z4, hg4, hk4, ⟨rfl, hj4⟩ | ⟨rfl, hj4⟩⟩
                · skip
                  refine hK _ _ ?_
                  clear hK K
                  refine wpAnyIn_ready (rs := [5]) (by kernel_rfl) (by simp) ?_
                  refine AllReadyIn.cons rfl (fun K hK => ?_) ?_
                  · go_simp
                    refine hK _ _ ?_
                    clear hK K
                    refine wpAnyIn_done (by kernel_rfl) ?_ _
                    gi_wp2
                    exact HG.out U4 Z4 hg4 hk4 hj4 _
                  exact AllReadyIn.nil
                · skip
                  refine hK _ _ ?_
                  clear hK K
                  refine wpAnyIn_ready (rs := [5]) (by kernel_rfl) (by simp) ?_
                  refine AllReadyIn.cons rfl (fun K hK => ?_) ?_
                  · go_simp
                    refine hK _ _ ?_
                    clear hK K
                    refine wpAnyIn_done (by kernel_rfl) ?_ _
                    gi_wp2
                    exact HX.out U4 Z4 hg4 hk4 hj4 _
                  exact AllReadyIn.nil
              exact AllReadyIn.nil
            exact AllReadyIn.nil
          refine AllReadyIn.cons rfl (fun K hK => ?_) ?_
          · go_simp
            refine ⟨trivial, (fun hd => by simp [Fence.wide] at hd), ?_⟩
            refine (CallsIn.inRound _ (callsIn_wide.2 (letterAt_any i U3 hi3))).mono ?_
            rintro e w3 ⟨rfl, rfl⟩
            refine hK _ _ ?_
            clear hK K
            refine wpAnyIn_ready (rs := [0]) (by kernel_rfl) (by simp) ?_
            refine AllReadyIn.cons rfl (fun K hK => ?_) ?_
            · go_simp
              refine hK _ _ ?_
              clear hK K
              refine wpAnyIn_ready (rs := [4]) (by kernel_rfl) (by simp) ?_
              refine AllReadyIn.cons rfl (fun K hK => ?_) ?_
              · go_simp
                refine ⟨(fun hd => by simp [Fence.wide] at hd), RoundIn.mono (show RoundIn (Fence.wide.inRound l1) (m1 - 1) _ _ _ _ _ _ _ _ from HRR.out) ?_⟩
                rintro e U4 ⟨Z4, hg4, hk4, ⟨rfl, hj4⟩ | ⟨rfl, hj4⟩⟩
                · skip
                  refine hK _ _ ?_
                  clear hK K
                  refine wpAnyIn_ready (rs := [5]) (by kernel_rfl) (by simp) ?_
                  refine AllReadyIn.cons rfl (fun K hK => ?_) ?_
                  · go_simp
                    refine hK _ _ ?_
                    clear hK K
                    refine wpAnyIn_done (by kernel_rfl) ?_ _
                    gi_wp2
                    exact HG.out U4 Z4 hg4 hk4 hj4 _
                  exact AllReadyIn.nil
                · skip
                  refine hK _ _ ?_
                  clear hK K
                  refine wpAnyIn_ready (rs := [5]) (by kernel_rfl) (by simp) ?_
                  refine AllReadyIn.cons rfl (fun K hK => ?_) ?_
                  · go_simp
                    refine hK _ _ ?_
                    clear hK K
                    refine wpAnyIn_done (by kernel_rfl) ?_ _
                    gi_wp2
                    exact HX.out U4 Z4 hg4 hk4 hj4 _
                  exact AllReadyIn.nil
              exact AllReadyIn.nil
            exact AllReadyIn.nil
          exact AllReadyIn.nil
        exact AllReadyIn.nil
      refine AllReadyIn.cons rfl (fun K hK => ?_) ?_
      · go_simp
        refine hK _ _ ?_
        clear hK K
        refine wpAnyIn_ready (rs := [0, 1]) (by kernel_rfl) (by simp) ?_
        refine AllReadyIn.cons rfl (fun K hK => ?_) ?_
        · go_simp
          refine hK _ _ ?_
          clear hK K
          refine wpAnyIn_ready (rs := [1]) (by kernel_rfl) (by simp) ?_
          refine AllReadyIn.cons rfl (fun K hK => ?_) ?_
          · go_simp
            refine hK _ _ ?_
            clear hK K
            refine wpAnyIn_ready (rs := [2]) (by kernel_rfl) (by simp) ?_
            refine AllReadyIn.cons rfl (fun K hK => ?_) ?_
            · go_simp
              refine ⟨trivial, (fun hd => by simp [Fence.wide] at hd), ?_⟩
              refine (CallsIn.inRound _ (callsIn_wide.2 (letterAt_any i U3 hi3))).mono ?_
              rintro e w3 ⟨rfl, rfl⟩
              refine hK _ _ ?_
              clear hK K
              refine wpAnyIn_ready (rs := [4]) (by kernel_rfl) (by simp) ?_
              refine AllReadyIn.cons rfl (fun K hK => ?_) ?_
              · go_simp
                refine ⟨(fun hd => by simp [Fence.wide] at hd), RoundIn.mono (show RoundIn (Fence.wide.inRound l1) (m1 - 1) _ _ _ _ _ _ _ _ from HRR.out) ?_⟩
                rintro e U4 ⟨Z4, hg4, hk4, ⟨rfl, hj4⟩ | ⟨rfl, hj4⟩⟩
                · skip
                  refine hK _ _ ?_
                  clear hK K
                  refine wpAnyIn_ready (rs := [5]) (by kernel_rfl) (by simp) ?_
                  refine AllReadyIn.cons rfl (fun K hK => ?_) ?_
                  · go_simp
                    refine hK _ _ ?_
                    clear hK K
                    refine wpAnyIn_done (by kernel_rfl) ?_ _
                    gi_wp2
                    exact HG.out U4 Z4 hg4 hk4 hj4 _
                  exact AllReadyIn.nil
                · skip
                  refine hK _ _ ?_
                  clear hK K
                  refine wpAnyIn_ready (rs := [5]) (by kernel_rfl) (by simp) ?_
                  refine AllReadyIn.cons rfl (fun K hK => ?_) ?_
                  · go_simp
                    refine hK _ _ ?_
                    clear hK K
                    refine wpAnyIn_done (by kernel_rfl) ?_ _
                    gi_wp2
                    exact HX.out U4 Z4 hg4 hk4 hj4 _
                  exact AllReadyIn.nil
              exact AllReadyIn.nil
            exact AllReadyIn.nil
          exact AllReadyIn.nil
        refine AllReadyIn.cons rfl (fun K hK => ?_) ?_
        · go_simp
          refine hK _ _ ?_
          clear hK K
          refine wpAnyIn_ready (rs := [0, 2]) (by kernel_rfl) (by simp) ?_
          refine AllReadyIn.cons rfl (fun K hK => ?_) ?_
          · go_simp
            refine hK _ _ ?_
            clear hK K
            refine wpAnyIn_ready (rs := [2]) (by kernel_rfl) (by simp) ?_
            refine AllReadyIn.cons rfl (fun K hK => ?_) ?_
            · go_simp
              refine ⟨trivial, (fun hd => by simp [Fence.wide] at hd), ?_⟩
              refine (CallsIn.inRound _ (callsIn_wide.2 (letterAt_any i U3 hi3))).mono ?_
              rintro e w3 ⟨rfl, rfl⟩
              refine hK _ _ ?_
              clear hK K
              refine wpAnyIn_ready (rs := [4]) (by kernel_rfl) (by simp) ?_
              refine AllReadyIn.cons rfl (fun K hK => ?_) ?_
              · go_simp
                refine ⟨(fun hd => by simp [Fence.wide] at hd), RoundIn.mono (show RoundIn (Fence.wide.inRound l1) (m1 - 1) _ _ _ _ _ _ _ _ from HRR.out) ?_⟩
                rintro e U4 ⟨Z4, hg4, hk4, ⟨rfl, hj4⟩ | ⟨rfl, hj4⟩⟩
                · skip
                  refine hK _ _ ?_
                  clear hK K
                  refine wpAnyIn_ready (rs := [5]) (by kernel_rfl) (by simp) ?_
                  refine AllReadyIn.cons rfl (fun K hK => ?_) ?_
                  · go_simp
                    refine hK _ _ ?_
                    clear hK K
                    refine wpAnyIn_done (by kernel_rfl) ?_ _
                    gi_wp2
                    exact HG.out U4 Z4 hg4 hk4 hj4 _
                  exact AllReadyIn.nil
                · skip
                  refine hK _ _ ?_
                  clear hK K
                  refine wpAnyIn_ready (rs := [5]) (by kernel_rfl) (by simp) ?_
                  refine AllReadyIn.cons rfl (fun K hK => ?_) ?_
                  · go_simp
                    refine hK _ _ ?_
                    clear hK K
                    refine wpAnyIn_done (by kernel_rfl) ?_ _
                    gi_wp2
                    exact HX.out U4 Z4 hg4 hk4 hj4 _
                  exact AllReadyIn.nil
              exact AllReadyIn.nil
            exact AllReadyIn.nil
          refine AllReadyIn.cons rfl (fun K hK => ?_) ?_
          · go_simp
            refine ⟨trivial, (fun hd => by simp [Fence.wide] at hd), ?_⟩
            refine (CallsIn.inRound _ (callsIn_wide.2 (letterAt_any i U3 hi3))).mono ?_
            rintro e w3 ⟨rfl, rfl⟩
            refine hK _ _ ?_
            clear hK K
            refine wpAnyIn_ready (rs := [0]) (by kernel_rfl) (by simp) ?_
            refine AllReadyIn.cons rfl (fun K hK => ?_) ?_
            · go_simp
              refine hK _ _ ?_
              clear hK K
              refine wpAnyIn_ready (rs := [4]) (by kernel_rfl) (by simp) ?_
              refine AllReadyIn.cons rfl (fun K hK => ?_) ?_
              · go_simp
                refine ⟨(fun hd => by simp [Fence.wide] at hd), RoundIn.mono (show RoundIn (Fence.wide.inRound l1) (m1 - 1) _ _ _ _ _ _ _ _ from HRR.out) ?_⟩
                rintro e U4 ⟨Z4, hg4, hk4, ⟨rfl, hj4⟩ | ⟨rfl, hj4⟩⟩
                · skip
                  refine hK _ _ ?_
                  clear hK K
                  refine wpAnyIn_ready (rs := [5]) (by kernel_rfl) (by simp) ?_
                  refine AllReadyIn.cons rfl (fun K hK => ?_) ?_
                  · go_simp
                    refine hK _ _ ?_
                    clear hK K
                    refine wpAnyIn_done (by kernel_rfl) ?_ _
                    gi_wp2
                    exact HG.out U4 Z4 hg4 hk4 hj4 _
                  exact AllReadyIn.nil
                · skip
                  refine hK _ _ ?_
                  clear hK K
                  refine wpAnyIn_ready (rs := [5]) (by kernel_rfl) (by simp) ?_
                  refine AllReadyIn.cons rfl (fun K hK => ?_) ?_
                  · go_simp
                    refine hK _ _ ?_
                    clear hK K
                    refine wpAnyIn_done (by kernel_rfl) ?_ _
                    gi_wp2
                    exact HX.out U4 Z4 hg4 hk4 hj4 _
                  exact AllReadyIn.nil
              exact AllReadyIn.nil
            exact AllReadyIn.nil
          exact AllReadyIn.nil
        exact AllReadyIn.nil
      exact AllReadyIn.nil
    case done =>
      rintro Z U ⟨hj3, hM3⟩ nD hD
      have hn3 : n ≤ 3 := by rw [HNN.out]; exact num_le hs
      have hN1 : (V2.heap.size :: rs).Nodup := List.nodup_cons.2 ⟨fun h => by have := hrl _ h; omega, HND.out⟩
      have hJ4 : J (lwK g s (k + 1)) Z U := by rw [HS.out, ← HII.out]; exact hj3
      have hM4 : Mine [W.heap.size, bn] w1 Z U := fun b hb => by
        rcases List.mem_cons.1 hb with rfl | hb
        · exact ⟨(hM3 _ mW).1.trans (hWy.trans e1.symm), (hM3 _ mW).2⟩
        · rw [List.mem_singleton] at hb
          subst hb
          exact ⟨(hM3 _ mB).1.trans hBb, (hM3 _ mB).2⟩
      have hd4 : ∀ r ∈ V2.heap.size :: rs, U.heap[r]? = some (.deferred (some [])) ∧ ¬ Z r ∧ W.heap.size ≤ r := fun r hr => by
        rcases List.mem_cons.1 hr with rfl | hr
        · exact ⟨hD, nD, by omega⟩
        · exact ⟨(hM3 _ (mr r hr)).1.trans (hr2 r hr), (hM3 _ (mr r hr)).2, hrW r hr⟩
      have HF := hide (And.intro hJ4 (And.intro hM4 (And.intro hN1 hd4)))
      clear hj3 hM3 hD hN1 hJ4 hM4 hd4 hj2 hM2
      gi_wp2
      refine ⟨⟨k + 1, V2.heap.size :: rs, Z, ?_⟩, ?_⟩
      · iterate 9 apply Exists.intro
        refine ⟨by omega, ?_, HF.out⟩
        rw [show ((k + 1 : Nat) : Int) = (k : Int) + 1 from by omega]
        rfl
      · simp [intOf]
        omega
    case stop =>
      rintro t Z U ⟨hj3, hM3⟩ nD hD
      gi_wp2
      refine leaves_marks (V2.heap.size :: rs) U (List.nodup_cons.2 ⟨fun h => by have := hrl _ h; omega, HND.out⟩) (fun r hr => ?_) fun V' hl hs => ?_
      · rcases List.mem_cons.1 hr with rfl | hr
        · exact hD
        · exact (hM3 _ (mr r hr)).1.trans (hr2 r hr)
      · refine ⟨_, results_none rfl _ _ _, ⟨_, rfl⟩, .inr ⟨_, Z, hJx.move hj3 hl fun b hb hlt => hs b fun hr => ?_⟩⟩
        rcases List.mem_cons.1 hr with rfl | hr
        · rcases hb with hb | hb
          · omega
          · exact nD hb
        · rcases hb with hb | hb
          · have := hrW b hr; omega
          · exact (hM3 _ (mr b hr)).2 hb
  · obtain rfl : k = n := by omega
    gi_wp2
    obtain ⟨hj, hm, hnd, hd⟩ := HI.out
    refine leaves_marks rs V hnd (fun r hr => (hd r hr).1) fun V' hl hs => ?_
    rw [HNN.out, lwK_all] at hj
    exact ⟨_, results_none rfl _ _ _, ⟨_, rfl⟩, .inl ⟨Y, hJ.move hj hl fun b hb hlt => hs b fun hr => by
      obtain ⟨_, h2, h3⟩ := hd b hr
      rcases hb with hb | hb
      · omega
      · exact h2 hb⟩⟩
end Go.Proofs.Ytjmjfmgbfjmaaaa

namespace Go.Proofs.Ytjmjfmgbfjmaaaa
open Go.RowKit
set_option linter.unusedVariables false
set_option linter.unusedSimpArgs false
attribute [local go_sem] Oper.semAt_some

/-- What a loop in a round carries: the caller's invariant, one's own blocks, and what the round owes. -/
def In2 {α β : Type} (J : List α → (Nat → Prop) → World → Prop) (F : List β → List α) (O : List Nat) (U2 : World) (nU : Nat) (Z : Nat → Prop) (s : List β) (Y : Nat → Prop) (V : World) : Prop :=
  J (F s) Y V ∧ Mine O U2 Y V ∧ Kept nU Z U2 V ∧ ∀ b, Y b → Z b ∨ nU ≤ b
theorem rests_in2 {α β : Type} {B : Nat} {J : List α → (Nat → Prop) → World → Prop} (F : List β → List α) {O : List Nat} {U2 : World} {nU : Nat} {Z : Nat → Prop} (hJ : Rests B J) (hB : B ≤ U2.heap.size) (hO : ∀ b ∈ O, b < U2.heap.size) (hn : nU ≤ U2.heap.size) :
    Rests U2.heap.size (In2 J F O U2 nU Z) :=
  ⟨fun h => hJ.there h.1, fun {s Y A A'} h hl hs => ⟨hJ.move h.1 hl (fun b hb hlt => hs b (hb.imp (fun k => by omega) id) hlt), h.2.1.keep fun b hb => hs b (.inl (hO b hb)) (h.2.1.lt hb (hO b hb)),
    ⟨h.2.2.1.low.trans hl, fun b hb hx => (hs b (.inl (by omega)) (by have := h.2.2.1.low.size; omega)).trans (h.2.2.1.same b hb hx)⟩, h.2.2.2⟩⟩
theorem ends_in2 {α β : Type} {J : List α → (Nat → Prop) → World → Prop} {Ix : List β → (Nat → Prop) → World → Prop} (F : List β → List α) {O : List Nat} {U2 V2 V3 V4 : World} {nU nV : Nat} {Z Y Y4 : Nat → Prop} {t : List β} {u : β} {x : α} (hF : F (t ++ [u]) = F t ++ [x])
    (hO : ∀ b ∈ O, b < U2.heap.size) (hM : Mine O U2 Y V2) (hK : Kept nU Z U2 V2) (hG : ∀ b, Y b → Z b ∨ nU ≤ b) (hU : nU ≤ U2.heap.size) (hh : V3.heap = V2.heap) (hn : nV = V2.heap.size) (hb : Below 0 V2 V3) (hg : ∀ b, Y4 b → Y b ∨ V3.heap.size ≤ b) (hk : Kept V3.heap.size Y V3 V4) (hj : J (F t ++ [x]) Y4 V4) (act : Act) :
    Ends (In2 J F O U2 nU Z) Ix (t ++ [u]) Y nV V2 .normal act V4 := by
  subst hn
  have hz : V3.heap.size = V2.heap.size := by rw [hh]
  rw [hz] at hg hk
  have hs := hK.low.size
  have hM3 : Mine O U2 Y V3 := hM.keep fun b _ => by rw [hh]
  have hO2 : ∀ b ∈ O, b < V2.heap.size := fun b hb => hM.lt hb (hO b hb)
  refine ⟨Y4, hg, ⟨hb.trans hk.low, fun b hb hx => (hk.same b hb hx).trans (by rw [hh])⟩, by rw [hF]; exact hj, (hM3.kept hO2 hk).grow hO2 hg, ⟨hK.low.trans (hb.trans hk.low), fun b hb hx => ?_⟩, fun b hb => ?_⟩
  · exact (hk.same b (by omega) (fun k => by rcases hG b k with k | k; exact hx k; omega)).trans ((show V3.heap[b]? = V2.heap[b]? by rw [hh]).trans (hK.same b hb hx))
  · rcases hg b hb with k | k
    · exact hG b k
    · exact .inr (by omega)
theorem ends_in2_ret {α β : Type} {Jx : List α → (Nat → Prop) → World → Prop} {I : List β → (Nat → Prop) → World → Prop} (F : List β → List α) {O : List Nat} {U2 V2 V3 V4 : World} {nU nV : Nat} {Z Y Y4 : Nat → Prop} {t : List β} {u : β} {x : α} (hF : F (t ++ [u]) = F t ++ [x])
    (hO : ∀ b ∈ O, b < U2.heap.size) (hM : Mine O U2 Y V2) (hK : Kept nU Z U2 V2) (hG : ∀ b, Y b → Z b ∨ nU ≤ b) (hU : nU ≤ U2.heap.size) (hh : V3.heap = V2.heap) (hn : nV = V2.heap.size) (hb : Below 0 V2 V3) (hg : ∀ b, Y4 b → Y b ∨ V3.heap.size ≤ b) (hk : Kept V3.heap.size Y V3 V4) (hj : Jx (F t ++ [x]) Y4 V4) (act : Act) :
    Ends I (In2 Jx F O U2 nU Z) (t ++ [u]) Y nV V2 .ret act V4 := ends_in2 (J := Jx) (Ix := I) F hF hO hM hK hG hU hh hn hb hg hk hj act
/-- What has come when the pairs P are done. -/
def glK (L P : List (List UInt8 × List UInt8)) : List (List UInt8) := P.flatMap fun p => L.map (glue p)
theorem glK_succ (L P : List (List UInt8 × List UInt8)) (p : List UInt8 × List UInt8) : glK L (P ++ [p]) = glK L P ++ L.map (glue p) := by simp [glK]
theorem flat_pre {α β : Type} (f : α → List β) {A B : List α} (h : A <+: B) : A.flatMap f <+: B.flatMap f := by
  obtain ⟨R, rfl⟩ := h
  rw [List.flatMap_append]
  exact List.prefix_append _ _
theorem glK_step {L P Q : List (List UInt8 × List UInt8)} {p q : List UInt8 × List UInt8} (hp : P ++ [p] <+: L) (hq : Q ++ [q] <+: L) : (glK L P ++ Q.map (glue p)) ++ [glue p q] <+: glK L L := by
  have h1 : glK L (P ++ [p]) <+: glK L L := flat_pre _ hp
  refine List.IsPrefix.trans ?_ h1
  rw [glK_succ, List.append_assoc]
  refine (List.prefix_append_right_inj _).2 ?_
  have := hq.map (glue p)
  rwa [List.map_append] at this
theorem fwF_many {f s : Nat} (h : (numN s).length ≠ 1) : fwF (f + 1) s = glK (lwF (fwF f) s) (lwF (fwF f) s) := by
  show (if (numN s).length = 1 then _ else _) = _
  rw [if_neg h]
  rfl
theorem fwF_one {f s : Nat} (h : (numN s).length = 1) : fwF (f + 1) s = [[lx ((numN s).headD 0)]] := by
  show (if (numN s).length = 1 then _ else _) = _
  rw [if_pos h]
theorem lw_short {f s : Nat} (hf : f < 4) (hs : s < 8) {p : List UInt8 × List UInt8} (h : p ∈ lwF (fwF f) s) : p.1.length = 1 ∧ p.2.length ≤ 10 := by
  unfold lwF at h
  obtain ⟨i, hi, h⟩ := List.mem_flatMap.1 h
  obtain ⟨u, hu, rfl⟩ := List.mem_map.1 h
  exact ⟨rfl, fw_short hf (s := s - 2 ^ i) (Nat.lt_of_le_of_lt (Nat.sub_le _ _) hs) u hu⟩
theorem pre_mem {α : Type} {P L : List α} {p : α} (h : P ++ [p] <+: L) : p ∈ L := h.subset (List.mem_append_right _ (List.mem_singleton.2 rfl))

theorem rests_ex {α β : Type} {B : Nat} {J : List α → (Nat → Prop) → World → Prop} {O : List Nat} {w2 : World} (hJ : Rests B J) (hB : B ≤ w2.heap.size) (hO : ∀ b ∈ O, b < w2.heap.size) :
    Rests w2.heap.size (fun (_ : List β) (Y : Nat → Prop) (V : World) => ∃ q, J q Y V ∧ Mine O w2 Y V) :=
  ⟨fun h => by obtain ⟨q, h⟩ := h; exact hJ.there h.1, fun h hl hs => by
    obtain ⟨q, h⟩ := h
    exact ⟨q, hJ.move h.1 hl (fun b hb hlt => hs b (hb.imp (fun k => by omega) id) hlt), h.2.keep fun b hb => hs b (.inl (hO b hb)) (h.2.lt hb (hO b hb))⟩⟩

set_option maxRecDepth 100000 in
set_option maxHeartbeats 4000000 in
theorem full_hands : ∀ (f s : Nat), f < 4 → 1 ≤ s → s < 8 → (numN s).length ≤ f → ∀ w, Hands Try.prog 52 (fun l => #[.int .i64 s] ++ #[.func (.yield l) #[] #[]] ++ #[]) (fun u : List UInt8 => #[.string (bs u)]) (fwF f s) w
  | 0, s, _, h1, hs, hf, w => by have := num_some h1 hs; omega
  | f + 1, s, hf4, h1, hs, hf, w => by
    have ih := full_hands f
    intro l J Jx X W hW hX hJ hJx h0 hY m
    have HY := hide hY
    have HT := hide (thk_num hs)
    have HN := hide (num_some h1 hs)
    obtain ⟨W0, hW0⟩ : ∃ W0, W0 = (W.alloc (.cells #[.int .i64 s] 53)).alloc (.cells #[.func (.yield l) #[] #[]] 56) := ⟨_, rfl⟩
    have b0 : Below W.heap.size W W0 := by rw [hW0]; exact ((Below.refl W.heap.size W).alloc (Nat.le_refl _) _).alloc (by simp) _
    have e0 : W0.heap[W.heap.size]? = some (.cells #[.int .i64 s] 53) := by rw [hW0]; exact (Below.heap_alloc _ _ _ (by simp)).trans (heap_alloc_new W _)
    have e1 : W0.heap[W.heap.size + 1]? = some (.cells #[.func (.yield l) #[] #[]] 56) := by
      rw [hW0]
      have := heap_alloc_new (W.alloc (.cells #[.int .i64 s] 53)) (.cells #[.func (.yield l) #[] #[]] 56)
      rwa [World.size_alloc] at this
    have z0 : W0.heap.size = W.heap.size + 2 := by rw [hW0]; simp
    have cs0 : W0.cell? ⟨W.heap.size, 0, none⟩ = some (.int .i64 s) := by rw [cell_of_row W0 W.heap.size 0 _ _ _ e0]; rfl
    have HW0 := hide hW0
    have IH := hide ih
    clear hW0 hY ih
    refine callsIn_of_wp_marks Try.func52 rfl trivial ?_ rfl
    simp only [Try.ntmps52, List.size_toArray, List.length_cons, List.length_nil, Nat.reduceAdd, Nat.reduceSub, Array.replicate_succ, Array.replicate_zero, List.push_toArray, List.append_toArray, List.nil_append, List.cons_append]
    gi_wp2
    rw [← HW0.out]
    gi_wp2_with fail
    refine ⟨trivial, (fun hd => by simp [Fence.wide] at hd), (callsIn_wide.2 (thingsIn_any s W0 (by omega))).mono ?_⟩
    rintro e w1 ⟨A, c, rfl, b1, hR, _, _⟩
    have hL : (thk s 9).length = (numN s).length := by rw [HT.out, List.length_map]
    rw [hL]
    have B1 : Below W.heap.size W w1 := b0.trans (b1.mono (by omega))
    have hj1 : J [] X w1 := hJ.move h0 (B1.mono (Nat.zero_le _)) (fun b hb hlt => B1.block b hlt)
    have f0 : w1.heap[W.heap.size]? = some (.cells #[.int .i64 s] 53) := (b1.block _ (by omega)).trans e0
    have f1 : w1.heap[W.heap.size + 1]? = some (.cells #[.func (.yield l) #[] #[]] 56) := (b1.block _ (by omega)).trans e1
    have cs1 : w1.cell? ⟨W.heap.size, 0, none⟩ = some (.int .i64 s) := by rw [cell_of_row w1 W.heap.size 0 _ _ _ f0]; rfl
    have hs1 := b1.size
    have hX1 : ∀ b, X b → b < W.heap.size := hJ.there h0
    by_cases hone : (numN s).length = 1
    · obtain ⟨bn, on, rfl, hbn1, hbn2, hc0⟩ := hR 0 (by rw [hL]; exact HN.out)
      obtain ⟨i, hi⟩ : ∃ i, i = (numN s).headD 0 := ⟨_, rfl⟩
      have himem : i ∈ numN s := by
        rw [hi]
        cases e : numN s with
        | nil => rw [e] at hone; cases hone
        | cons a x => exact List.mem_cons_self ..
      have hi3 := (num_lt himem).1
      have hel : el (thk s 9) 0 = (i : Int) := by
        rw [HT.out, hi]
        cases e : numN s with
        | nil => rw [e] at hone; cases hone
        | cons a x => rfl
      rw [hel, Nat.add_zero] at hc0
      rw [hone]
      have hx : fwF (f + 1) s = [[lx i]] := by rw [fwF_one hone, hi]
      have HX := hide hx
      have hmx : Try.prog.follows .mixedOrders = true := by kernel_rfl
      clear hR hL hone hi himem hel hx
      gi_wp2
      refine wpIn_region_any hmx ?_
      change wpAnyIn _ _ _ _ _ _ _ _ _ (World.drew _)
      obtain ⟨U3, hU3⟩ : ∃ U3, U3 = World.drew w1 := ⟨_, rfl⟩
      rw [← hU3]
      have hh : U3.heap = w1.heap := by rw [hU3]; rfl
      have hb3 : Below 0 w1 U3 := by rw [hU3]; exact below_drew0 w1
      have cY : U3.cell? ⟨W.heap.size + 1, 0, none⟩ = some (.func (.yield l) #[] #[]) := by
        rw [cell_of_row U3 (W.heap.size + 1) 0 _ _ _ ((show U3.heap[W.heap.size + 1]? = w1.heap[W.heap.size + 1]? by rw [hh]).trans f1)]; rfl
      have cN : U3.cell? ⟨bn, on, none⟩ = some (.int .i64 (i : Nat)) := (World.cell?_of_block (w := w1) (show U3.heap[bn]? = w1.heap[bn]? by rw [hh])).trans hc0
      obtain ⟨fn', tm', as', bd', hy, hR⟩ := HY.out [] [lx i] X U3 (m - 1) (hJ.move hj1 hb3 (fun b _ _ => by rw [hh])) (by rw [HX.out]; exact List.prefix_refl _)
      try dsimp only at hy
      have HRR := hide hR
      clear hU3 hR hj1 hb3 hc0
      refine wpAnyIn_ready (rs := [0, 1]) (by kernel_rfl) (by simp) ?_
      refine AllReadyIn.cons rfl (fun K hK => ?_) ?_
      · go_simp
        refine hK _ _ ?_
        clear hK K
        refine wpAnyIn_ready (rs := [1]) (by kernel_rfl) (by simp) ?_
        refine AllReadyIn.cons rfl (fun K hK => ?_) ?_
        · go_simp
          refine hK _ _ ?_
          clear hK K
          refine wpAnyIn_ready (rs := [2]) (by kernel_rfl) (by simp) ?_
          refine AllReadyIn.cons rfl (fun K hK => ?_) ?_
          · go_simp
            refine hK _ _ ?_
            clear hK K
            refine wpAnyIn_ready (rs := [3]) (by kernel_rfl) (by simp) ?_
            refine AllReadyIn.cons rfl (fun K hK => ?_) ?_
            · go_simp
              refine hK _ _ ?_
              clear hK K
              refine wpAnyIn_ready (rs := [4]) (by kernel_rfl) (by simp) ?_
              refine AllReadyIn.cons rfl (fun K hK => ?_) ?_
              · go_simp
                refine ⟨trivial, (fun hd => by simp [Fence.wide] at hd), ?_⟩
                refine (callsIn_wide.2 (letterAt_any i U3 hi3)).mono ?_
                rintro e w3 ⟨rfl, rfl⟩
                refine hK _ _ ?_
                clear hK K
                refine wpAnyIn_ready (rs := [5]) (by kernel_rfl) (by simp) ?_
                refine AllReadyIn.cons rfl (fun K hK => ?_) ?_
                · go_simp
                  refine ⟨(fun hd => by simp [Fence.wide] at hd), RoundIn.mono (show RoundIn Fence.wide (m - 1) _ _ _ _ _ _ _ _ from HRR.out) ?_⟩
                  rintro e U4 ⟨Z4, hg4, hk4, ⟨rfl, hj4⟩ | ⟨rfl, hj4⟩⟩
                  · skip
                    refine hK _ _ ?_
                    clear hK K
                    refine wpAnyIn_done (by kernel_rfl) ?_ _
                    gi_wp2
                    exact ⟨_, results_none rfl _ _ _, ⟨_, rfl⟩, .inl ⟨Z4, HX.out ▸ hj4⟩⟩
                  · skip
                    refine hK _ _ ?_
                    clear hK K
                    refine wpAnyIn_done (by kernel_rfl) ?_ _
                    gi_wp2
                    exact ⟨_, results_none rfl _ _ _, ⟨_, rfl⟩, .inr ⟨_, Z4, hj4⟩⟩
                exact AllReadyIn.nil
              exact AllReadyIn.nil
            exact AllReadyIn.nil
          exact AllReadyIn.nil
        exact AllReadyIn.nil
      refine AllReadyIn.cons rfl (fun K hK => ?_) ?_
      · go_simp
        refine hK _ _ ?_
        clear hK K
        refine wpAnyIn_ready (rs := [0, 2]) (by kernel_rfl) (by simp) ?_
        refine AllReadyIn.cons rfl (fun K hK => ?_) ?_
        · go_simp
          refine hK _ _ ?_
          clear hK K
          refine wpAnyIn_ready (rs := [2]) (by kernel_rfl) (by simp) ?_
          refine AllReadyIn.cons rfl (fun K hK => ?_) ?_
          · go_simp
            refine hK _ _ ?_
            clear hK K
            refine wpAnyIn_ready (rs := [3]) (by kernel_rfl) (by simp) ?_
            refine AllReadyIn.cons rfl (fun K hK => ?_) ?_
            · go_simp
              refine hK _ _ ?_
              clear hK K
              refine wpAnyIn_ready (rs := [4]) (by kernel_rfl) (by simp) ?_
              refine AllReadyIn.cons rfl (fun K hK => ?_) ?_
              · go_simp
                refine ⟨trivial, (fun hd => by simp [Fence.wide] at hd), ?_⟩
                refine (callsIn_wide.2 (letterAt_any i U3 hi3)).mono ?_
                rintro e w3 ⟨rfl, rfl⟩
                refine hK _ _ ?_
                clear hK K
                refine wpAnyIn_ready (rs := [5]) (by kernel_rfl) (by simp) ?_
                refine AllReadyIn.cons rfl (fun K hK => ?_) ?_
                · go_simp
                  refine ⟨(fun hd => by simp [Fence.wide] at hd), RoundIn.mono (show RoundIn Fence.wide (m - 1) _ _ _ _ _ _ _ _ from HRR.out) ?_⟩
                  rintro e U4 ⟨Z4, hg4, hk4, ⟨rfl, hj4⟩ | ⟨rfl, hj4⟩⟩
                  · skip
                    refine hK _ _ ?_
                    clear hK K
                    refine wpAnyIn_done (by kernel_rfl) ?_ _
                    gi_wp2
                    exact ⟨_, results_none rfl _ _ _, ⟨_, rfl⟩, .inl ⟨Z4, HX.out ▸ hj4⟩⟩
                  · skip
                    refine hK _ _ ?_
                    clear hK K
                    refine wpAnyIn_done (by kernel_rfl) ?_ _
                    gi_wp2
                    exact ⟨_, results_none rfl _ _ _, ⟨_, rfl⟩, .inr ⟨_, Z4, hj4⟩⟩
                exact AllReadyIn.nil
              exact AllReadyIn.nil
            exact AllReadyIn.nil
          exact AllReadyIn.nil
        refine AllReadyIn.cons rfl (fun K hK => ?_) ?_
        · go_simp
          refine hK _ _ ?_
          clear hK K
          refine wpAnyIn_ready (rs := [0, 3]) (by kernel_rfl) (by simp) ?_
          refine AllReadyIn.cons rfl (fun K hK => ?_) ?_
          · go_simp
            refine hK _ _ ?_
            clear hK K
            refine wpAnyIn_ready (rs := [3]) (by kernel_rfl) (by simp) ?_
            refine AllReadyIn.cons rfl (fun K hK => ?_) ?_
            · go_simp
              refine hK _ _ ?_
              clear hK K
              refine wpAnyIn_ready (rs := [4]) (by kernel_rfl) (by simp) ?_
              refine AllReadyIn.cons rfl (fun K hK => ?_) ?_
              · go_simp
                refine ⟨trivial, (fun hd => by simp [Fence.wide] at hd), ?_⟩
                refine (callsIn_wide.2 (letterAt_any i U3 hi3)).mono ?_
                rintro e w3 ⟨rfl, rfl⟩
                refine hK _ _ ?_
                clear hK K
                refine wpAnyIn_ready (rs := [5]) (by kernel_rfl) (by simp) ?_
                refine AllReadyIn.cons rfl (fun K hK => ?_) ?_
                · go_simp
                  refine ⟨(fun hd => by simp [Fence.wide] at hd), RoundIn.mono (show RoundIn Fence.wide (m - 1) _ _ _ _ _ _ _ _ from HRR.out) ?_⟩
                  rintro e U4 ⟨Z4, hg4, hk4, ⟨rfl, hj4⟩ | ⟨rfl, hj4⟩⟩
                  · skip
                    refine hK _ _ ?_
                    clear hK K
                    refine wpAnyIn_done (by kernel_rfl) ?_ _
                    gi_wp2
                    exact ⟨_, results_none rfl _ _ _, ⟨_, rfl⟩, .inl ⟨Z4, HX.out ▸ hj4⟩⟩
                  · skip
                    refine hK _ _ ?_
                    clear hK K
                    refine wpAnyIn_done (by kernel_rfl) ?_ _
                    gi_wp2
                    exact ⟨_, results_none rfl _ _ _, ⟨_, rfl⟩, .inr ⟨_, Z4, hj4⟩⟩
                exact AllReadyIn.nil
              exact AllReadyIn.nil
            exact AllReadyIn.nil
          refine AllReadyIn.cons rfl (fun K hK => ?_) ?_
          · go_simp
            refine hK _ _ ?_
            clear hK K
            refine wpAnyIn_ready (rs := [0, 4]) (by kernel_rfl) (by simp) ?_
            refine AllReadyIn.cons rfl (fun K hK => ?_) ?_
            · go_simp
              refine hK _ _ ?_
              clear hK K
              refine wpAnyIn_ready (rs := [4]) (by kernel_rfl) (by simp) ?_
              refine AllReadyIn.cons rfl (fun K hK => ?_) ?_
              · go_simp
                refine ⟨trivial, (fun hd => by simp [Fence.wide] at hd), ?_⟩
                refine (callsIn_wide.2 (letterAt_any i U3 hi3)).mono ?_
                rintro e w3 ⟨rfl, rfl⟩
                refine hK _ _ ?_
                clear hK K
                refine wpAnyIn_ready (rs := [5]) (by kernel_rfl) (by simp) ?_
                refine AllReadyIn.cons rfl (fun K hK => ?_) ?_
                · go_simp
                  refine ⟨(fun hd => by simp [Fence.wide] at hd), RoundIn.mono (show RoundIn Fence.wide (m - 1) _ _ _ _ _ _ _ _ from HRR.out) ?_⟩
                  rintro e U4 ⟨Z4, hg4, hk4, ⟨rfl, hj4⟩ | ⟨rfl, hj4⟩⟩
                  · skip
                    refine hK _ _ ?_
                    clear hK K
                    refine wpAnyIn_done (by kernel_rfl) ?_ _
                    gi_wp2
                    exact ⟨_, results_none rfl _ _ _, ⟨_, rfl⟩, .inl ⟨Z4, HX.out ▸ hj4⟩⟩
                  · skip
                    refine hK _ _ ?_
                    clear hK K
                    refine wpAnyIn_done (by kernel_rfl) ?_ _
                    gi_wp2
                    exact ⟨_, results_none rfl _ _ _, ⟨_, rfl⟩, .inr ⟨_, Z4, hj4⟩⟩
                exact AllReadyIn.nil
              exact AllReadyIn.nil
            refine AllReadyIn.cons rfl (fun K hK => ?_) ?_
            · go_simp
              refine ⟨trivial, (fun hd => by simp [Fence.wide] at hd), ?_⟩
              refine (callsIn_wide.2 (letterAt_any i U3 hi3)).mono ?_
              rintro e w3 ⟨rfl, rfl⟩
              refine hK _ _ ?_
              clear hK K
              refine wpAnyIn_ready (rs := [0]) (by kernel_rfl) (by simp) ?_
              refine AllReadyIn.cons rfl (fun K hK => ?_) ?_
              · go_simp
                refine hK _ _ ?_
                clear hK K
                refine wpAnyIn_ready (rs := [5]) (by kernel_rfl) (by simp) ?_
                refine AllReadyIn.cons rfl (fun K hK => ?_) ?_
                · go_simp
                  refine ⟨(fun hd => by simp [Fence.wide] at hd), RoundIn.mono (show RoundIn Fence.wide (m - 1) _ _ _ _ _ _ _ _ from HRR.out) ?_⟩
                  rintro e U4 ⟨Z4, hg4, hk4, ⟨rfl, hj4⟩ | ⟨rfl, hj4⟩⟩
                  · skip
                    refine hK _ _ ?_
                    clear hK K
                    refine wpAnyIn_done (by kernel_rfl) ?_ _
                    gi_wp2
                    exact ⟨_, results_none rfl _ _ _, ⟨_, rfl⟩, .inl ⟨Z4, HX.out ▸ hj4⟩⟩
                  · skip
                    refine hK _ _ ?_
                    clear hK K
                    refine wpAnyIn_done (by kernel_rfl) ?_ _
                    gi_wp2
                    exact ⟨_, results_none rfl _ _ _, ⟨_, rfl⟩, .inr ⟨_, Z4, hj4⟩⟩
                exact AllReadyIn.nil
              exact AllReadyIn.nil
            exact AllReadyIn.nil
          exact AllReadyIn.nil
        exact AllReadyIn.nil
      exact AllReadyIn.nil
    · have hone' : ((numN s).length : Int) ≠ 1 := by omega
      obtain ⟨L, hLL⟩ : ∃ L, L = lwF (fwF f) s := ⟨_, rfl⟩
      have HH := hide (show ∀ w, Hands Try.prog 86 (fun l => #[.int .i64 s] ++ #[.func (.yield l) #[] #[]] ++ #[]) (fun p : List UInt8 × List UInt8 => #[.string (bs p.1), .string (bs p.2)]) L w from by
        rw [hLL]
        exact letters_hands s h1 hs (fwF f) fun i hi w => by
          obtain ⟨g1, g2, g3⟩ := num_other hs hi hone
          exact IH.out _ (by omega) g1 g2 (by omega) w)
      have HX := hide (show fwF (f + 1) s = glK L L from by rw [fwF_many hone, ← hLL])
      have HSH := hide (fun (p : List UInt8 × List UInt8) (hp : p ∈ L) => lw_short (f := f) (by omega) hs (hLL ▸ hp))
      obtain ⟨O, hO⟩ : ∃ O, O = [W.heap.size, W.heap.size + 1] := ⟨_, rfl⟩
      have hOl : ∀ b ∈ O, b < w1.heap.size := fun b hb => by
        rw [hO] at hb
        simp only [List.mem_cons, List.not_mem_nil, or_false] at hb
        omega
      have hM1 : Mine O w1 X w1 := fun b hb => ⟨rfl, fun k => by
        have := hX1 b k
        rw [hO] at hb
        simp only [List.mem_cons, List.not_mem_nil, or_false] at hb
        omega⟩
      have mS : W.heap.size ∈ O := by rw [hO]; simp
      have mY : W.heap.size + 1 ∈ O := by rw [hO]; simp
      have hsW := hW.size
      have HO := hide hO
      clear hR hL hone hO hLL
      gi_wp2
      refine range_top (α := List UInt8 × List UInt8) (gf := 86) (fa := #[.int .i64 s]) (lb := #[]) (enc := fun p => #[.string (bs p.1), .string (bs p.2)]) (xs := L) (w0 := bare w1) rfl (enters_of Try.func86 (by kernel_rfl) rfl) (fun _ => rfl)
        (HH.out (bare w1)) (below_bare w1) (fun P Z U => J (glK L P) Z U ∧ Mine O w1 Z U) (fun P Z U => ∃ q, Jx q Z U ∧ Mine O w1 Z U) X
        (rests_mine (fun P => glK L P) hJ (by omega) hOl) (rests_ex hJx (by omega) hOl) (fun b hb => Nat.zero_le _) ⟨hj1, hM1⟩ ?round ?done ?stop
      case round =>
        rintro l1 m1 hl1 P ⟨pl, pw⟩ Z U hI nX ltU hpre
        obtain ⟨sp1, sp2⟩ := HSH.out _ (pre_mem hpre)
        have HPRE := hide hpre
        have hZl : ∀ b, Z b → b < U.heap.size := hJ.there hI.1
        have lS : W.heap.size < U.heap.size := hI.2.lt mS (hOl _ mS)
        have lY : W.heap.size + 1 < U.heap.size := hI.2.lt mY (hOl _ mY)
        clear hj1 hM1 hI hpre
        gi_wp2
        obtain ⟨U1, hU1⟩ : ∃ U1, U1 = (U.alloc (.cells #[.string (bs pl)] 9)).alloc (.cells #[.string (bs pw)] 9) := ⟨_, rfl⟩
        rw [← hU1]
        have bU1 : Below U.heap.size U U1 := by rw [hU1]; exact ((Below.refl U.heap.size U).alloc (Nat.le_refl _) _).alloc (by simp) _
        have eL : U1.heap[U.heap.size]? = some (.cells #[.string (bs pl)] 9) := by rw [hU1]; exact (Below.heap_alloc _ _ _ (by simp)).trans (heap_alloc_new U _)
        have eW : U1.heap[U.heap.size + 1]? = some (.cells #[.string (bs pw)] 9) := by
          rw [hU1]
          have := heap_alloc_new (U.alloc (.cells #[.string (bs pl)] 9)) (.cells #[.string (bs pw)] 9)
          rwa [World.size_alloc] at this
        have zU1 : U1.heap.size = U.heap.size + 2 := by rw [hU1]; simp
        clear hU1
        refine ⟨Kept.of bU1 _, fun U2 r hb2 hz2 ho2 hl2 hJ2 hM2 => ?_⟩
        have eL2 : U2.heap[U.heap.size]? = some (.cells #[.string (bs pl)] 9) := (ho2 _ (by omega)).trans eL
        have eW2 : U2.heap[U.heap.size + 1]? = some (.cells #[.string (bs pw)] 9) := (ho2 _ (by omega)).trans eW
        have eS2 : U2.heap[W.heap.size]? = some (.cells #[.int .i64 s] 53) := (hM2 _ mS).1.trans f0
        have eY2 : U2.heap[W.heap.size + 1]? = some (.cells #[.func (.yield l) #[] #[]] 56) := (hM2 _ mY).1.trans f1
        have cs2 : U2.cell? ⟨W.heap.size, 0, none⟩ = some (.int .i64 s) := by rw [cell_of_row U2 W.heap.size 0 _ _ _ eS2]; rfl
        obtain ⟨O2, hO2⟩ : ∃ O2, O2 = [W.heap.size, W.heap.size + 1, U.heap.size, U.heap.size + 1] := ⟨_, rfl⟩
        have hOl2 : ∀ b ∈ O2, b < U2.heap.size := fun b hb => by
          rw [hO2] at hb
          simp only [List.mem_cons, List.not_mem_nil, or_false] at hb
          omega
        have hM22 : Mine O2 U2 Z U2 := fun b hb => ⟨rfl, fun k => by
          have h1 := hZl b k
          rw [hO2] at hb
          simp only [List.mem_cons, List.not_mem_nil, or_false] at hb
          rcases hb with rfl | rfl | rfl | rfl
          · exact (hM2 _ mS).2 k
          · exact (hM2 _ mY).2 k
          · omega
          · omega⟩
        have m2a : W.heap.size ∈ O2 := by rw [hO2]; simp
        have m2b : W.heap.size + 1 ∈ O2 := by rw [hO2]; simp
        have m2c : U.heap.size ∈ O2 := by rw [hO2]; simp
        have m2d : U.heap.size + 1 ∈ O2 := by rw [hO2]; simp
        have hMO : ∀ Y V, Mine O2 U2 Y V → Mine O w1 Y V := fun Y V h b hb => by
          have hb' := hb
          rw [HO.out] at hb'
          simp only [List.mem_cons, List.not_mem_nil, or_false] at hb'
          rcases hb' with rfl | rfl
          · exact ⟨(h _ m2a).1.trans (hM2 _ mS).1, (h _ m2a).2⟩
          · exact ⟨(h _ m2b).1.trans (hM2 _ mY).1, (h _ m2b).2⟩
        have HMO := hide hMO
        have HO2 := hide hO2
        clear ho2 hO2 hMO eL eW bU1 hM2
        gi_wp2
        refine range_in (α := List UInt8 × List UInt8) (l₀ := l1) (r₀ := r) hl2 (gf := 86) (fa := #[.int .i64 s]) (lb := #[]) (enc := fun p => #[.string (bs p.1), .string (bs p.2)]) (xs := L) (w0 := bare U2) rfl (enters_of Try.func86 (by kernel_rfl) rfl) (fun _ => rfl)
          (HH.out (bare U2)) (below_bare U2) (In2 J (fun Q => glK L P ++ Q.map (glue (pl, pw))) O2 U2 U.heap.size Z) (In2 Jx (fun Q => glK L P ++ Q.map (glue (pl, pw))) O2 U2 U.heap.size Z) Z
          (rests_in2 _ hJ (by omega) hOl2 (by omega)) (rests_in2 _ hJx (by omega) hOl2 (by omega)) (fun b hb => Nat.zero_le _) ⟨(show J (glK L P ++ ([] : List (List UInt8 × List UInt8)).map (glue (pl, pw))) Z U2 from by rw [List.map_nil, List.append_nil]; exact hJ2), hM22, Kept.refl _ _ _, fun b hb => .inl hb⟩ ?round2 ?done2 ?stop2
        case round2 =>
          rintro l2 m2 hl22 Q ⟨ql, qw⟩ Y V hI2 nY ltV hpre2
          obtain ⟨sq1, sq2⟩ := HSH.out _ (pre_mem hpre2)
          have HPRE2 := hide hpre2
          clear hI2 hpre2 hJ2 hM22 hl2
          gi_wp2
          refine ⟨Kept.refl _ _ _, fun V2 r2 hb3 hz3 ho3 hl3 hi3 => ?_⟩
          obtain ⟨hJ3, hM3, hK3, hG3⟩ := hi3
          have eL3 : V2.heap[U.heap.size]? = some (.cells #[.string (bs pl)] 9) := (hM3 _ m2c).1.trans eL2
          have eW3 : V2.heap[U.heap.size + 1]? = some (.cells #[.string (bs pw)] 9) := (hM3 _ m2d).1.trans eW2
          have eY3 : V2.heap[W.heap.size + 1]? = some (.cells #[.func (.yield l) #[] #[]] 56) := (hM3 _ m2b).1.trans eY2
          have cY : V2.cell? ⟨W.heap.size + 1, 0, none⟩ = some (.func (.yield l) #[] #[]) := by rw [cell_of_row V2 (W.heap.size + 1) 0 _ _ _ eY3]; rfl
          have cL : V2.cell? ⟨U.heap.size, 0, none⟩ = some (.string (bs pl)) := by rw [cell_of_row V2 U.heap.size 0 _ _ _ eL3]; rfl
          have cW : V2.cell? ⟨U.heap.size + 1, 0, none⟩ = some (.string (bs pw)) := by rw [cell_of_row V2 (U.heap.size + 1) 0 _ _ _ eW3]; rfl
          obtain ⟨fn', tm', as', bd', hy, hR⟩ := HY.out _ _ Y V2 (m2 - 1) hJ3 (by rw [HX.out]; exact glK_step HPRE.out HPRE2.out)
          have hgl : glue (pl, pw) (ql, qw) = pw ++ pl ++ ql ++ qw := rfl
          rw [hgl] at hy hR
          try dsimp only at hy
          try dsimp only at sq1
          try dsimp only at sq2
          obtain ⟨x1, hx1⟩ : ∃ x1, x1 = pw ++ pl := ⟨_, rfl⟩
          obtain ⟨x2, hx2⟩ : ∃ x2, x2 = x1 ++ ql := ⟨_, rfl⟩
          obtain ⟨x3, hx3⟩ : ∃ x3, x3 = x2 ++ qw := ⟨_, rfl⟩
          have y1 : x1.length = pw.length + pl.length := by rw [hx1, List.length_append]
          have y2 : x2.length = x1.length + ql.length := by rw [hx2, List.length_append]
          have a1 : ∀ w, (Op.stringOp .add (bs pw) (bs pl)).run Try.prog w = .ok (.string (bs x1)) w := fun w => by rw [hx1]; exact add_bs (P := Try.prog) pw pl (by omega) w
          have a2 : ∀ w, (Op.stringOp .add (bs x1) (bs ql)).run Try.prog w = .ok (.string (bs x2)) w := fun w => by rw [hx2]; exact add_bs (P := Try.prog) x1 ql (by omega) w
          have a3 : ∀ w, (Op.stringOp .add (bs x2) (bs qw)).run Try.prog w = .ok (.string (bs x3)) w := fun w => by rw [hx3]; exact add_bs (P := Try.prog) x2 qw (by omega) w
          have e3 : pw ++ pl ++ ql ++ qw = x3 := by rw [hx3, hx2, hx1]
          rw [e3] at hy hR
          have HG := hide (fun V4 Y4 h1 h2 h3 act => ends_in2 (J := J) (Ix := In2 Jx (fun Q => glK L P ++ Q.map (glue (pl, pw))) O2 U2 U.heap.size Z) (fun Q => glK L P ++ Q.map (glue (pl, pw))) (t := Q) (u := (ql, qw)) (x := x3) (V3 := V2) (V4 := V4) (Y4 := Y4) (by rw [← e3, List.map_append, ← List.append_assoc]; rfl) hOl2 hM3 hK3 hG3 (by omega) rfl hz3.symm (Below.refl _ _) h1 h2 h3 act)
          have HXX := hide (fun V4 Y4 h1 h2 h3 act => ends_in2_ret (Jx := Jx) (I := In2 J (fun Q => glK L P ++ Q.map (glue (pl, pw))) O2 U2 U.heap.size Z) (fun Q => glK L P ++ Q.map (glue (pl, pw))) (t := Q) (u := (ql, qw)) (x := x3) (V3 := V2) (V4 := V4) (Y4 := Y4) (by rw [← e3, List.map_append, ← List.append_assoc]; rfl) hOl2 hM3 hK3 hG3 (by omega) rfl hz3.symm (Below.refl _ _) h1 h2 h3 act)
          have HRR := hide hR
          clear hR hJ3 hM3 hK3 hG3 ho3 hl3 hgl hb3 hx1 hx2 hx3 e3 y1 y2
          gi_wp2
          refine ⟨(fun hd => by simp [Fence.wide] at hd), RoundIn.mono (show RoundIn (Fence.wide.inRound l2) (m2 - 1) _ _ _ _ _ _ _ _ from HRR.out) ?_⟩
          rintro e V4 ⟨Y4, hg4, hk4, ⟨rfl, hj4⟩ | ⟨rfl, hj4⟩⟩
          · gi_wp2
            exact HG.out V4 Y4 hg4 hk4 hj4 _
          · gi_wp2
            exact HXX.out V4 Y4 hg4 hk4 hj4 _
        case done2 =>
          rintro Y V ⟨hj3, hM3, hK3, hG3⟩
          gi_wp2
          exact ⟨Y, hG3, hK3, by rw [glK_succ]; exact hj3, HMO.out Y V hM3⟩
        case stop2 =>
          rintro Q Y V ⟨hj3, hM3, hK3, hG3⟩
          gi_wp2
          exact ⟨Y, hG3, hK3, ⟨_, hj3⟩, HMO.out Y V hM3⟩
      case done =>
        rintro Z U ⟨hj3, hM3⟩ nD hD
        gi_wp2
        refine leaves_marks [w1.heap.size] U (by simp) (fun r hr => ?_) fun V' hl hs => ?_
        · rw [List.mem_singleton] at hr
          subst hr
          exact hD
        · refine ⟨_, results_none rfl _ _ _, ⟨_, rfl⟩, .inl ⟨Z, ?_⟩⟩
          rw [HX.out]
          refine hJ.move hj3 hl fun b hb hlt => hs b fun hr => ?_
          rw [List.mem_singleton] at hr
          subst hr
          rcases hb with hb | hb
          · omega
          · exact nD hb
      case stop =>
        rintro t Z U ⟨q, hj3, hM3⟩ nD hD
        gi_wp2
        refine leaves_marks [w1.heap.size] U (by simp) (fun r hr => ?_) fun V' hl hs => ?_
        · rw [List.mem_singleton] at hr
          subst hr
          exact hD
        · refine ⟨_, results_none rfl _ _ _, ⟨_, rfl⟩, .inr ⟨q, Z, hJx.move hj3 hl fun b hb hlt => hs b fun hr => ?_⟩⟩
          rw [List.mem_singleton] at hr
          subst hr
          rcases hb with hb | hb
          · omega
          · exact nD hb
end Go.Proofs.Ytjmjfmgbfjmaaaa

namespace Go.Proofs.Ytjmjfmgbfjmaaaa
open Go.RowKit
set_option linter.unusedVariables false
set_option linter.unusedSimpArgs false
attribute [local go_sem] Oper.semAt_some

/-- 'row = append(row, text)', inside a fence; where the row then lies. -/
theorem wpListIn_app_str {F : Fence} {n : Nat} {ops : Array Oper} {rest : List Oper} {o : Oper} {a : Act} {Q : Exit → Act → World → Prop} {w : World} (hgd : o.guard = none) (s x : Operand)
    (ho : o.op = .call { callee := .builtin .append, args := #[s, x], argTypes := #[24, 24] }) (base : Nat) (v : Value) (L : List (List UInt8)) (q : List UInt8) (c : Nat) (hs : a.eval s = v) (hx : a.eval x = .slice (some ⟨w.heap.size, 0, none⟩) 1 c)
    (hown : AStr base w v L) (hn : L.length ≤ 1048576) (hb : base ≤ w.heap.size)
    (h : ∀ v' w', AStr base w' v' (L ++ [q]) → (w.alloc (.cells #[.string (bs q)] 9)).grownBy w' v.ownBlock → (v'.ownBlock = v.ownBlock ∨ v'.ownBlock = some (w.heap.size + 1)) → wpListIn F n Try.prog ops Q rest (a.put o.dst v') w') :
    wpListIn F n Try.prog ops Q (o :: rest) a (w.alloc (.cells #[.string (bs q)] 9)) := by
  obtain ⟨i0, hi0, hz0, hz1, hz2⟩ := info_parts info_str
  refine wpListIn_append_own_at _ hgd s x 24 ho base 9 i0 (.string ⟨#[]⟩) 1 16 Try.underlying24 hi0 hz0 hz1 hz2 rfl (by decide) v _ _ hs (hown.alloc _) ⟨w.heap.size, 0, none⟩ 1 c [.string (bs q)] hx rfl
    (World.news_of_block (cs := #[.string (bs q)]) (t := 9) (fr := (0, 0)) (heap_alloc_new _ _)) (by simp [Value.oneCell']) (by rw [maxLen_is]; omega) (by omega) (by simp; omega) ?_
  intro v' w' h1 h2 _ h4
  have e : (w.alloc (.cells #[.string (bs q)] 9)).heap.size = w.heap.size + 1 := by simp
  rw [e] at h4
  exact h v' w' (by unfold AStr; simpa using h1) h2 h4
theorem AStr.same {base : Nat} {V V' : World} {v : Value} {L : List (List UInt8)} (h : AStr base V v L) (hk : ∀ b, v.ownBlock = some b → V'.heap[b]? = V.heap[b]?) : AStr base V' v L := by
  refine ⟨h.1, ?_⟩
  rcases h.2 with h | ⟨g, cap, cur, rfl, hg, hh, hr⟩
  · exact .inl h
  · exact .inr ⟨g, cap, cur, rfl, hg, (hk g rfl).trans hh, hr⟩
/-- What is collected: the row lies in a box at the head of the call's own blocks; it and the box are all that a round writes. -/
def Coll (w : World) (t : List (List UInt8)) (Y : Nat → Prop) (V : World) : Prop :=
  ∃ v, Boxed V w.heap.size 24 v ∧ AStr w.heap.size V v t ∧ Below w.heap.size w V ∧ ∀ b, Y b ↔ (b = w.heap.size ∨ v.ownBlock = some b)
theorem rests_coll (w : World) (B : Nat) (hB : w.heap.size ≤ B) : Rests B (Coll w) :=
  ⟨fun h b hb => by
    obtain ⟨v, h1, h2, h3, h4⟩ := h
    rcases (h4 b).1 hb with rfl | hb
    · exact h1.lt
    · exact (h2.lt b hb).2,
   fun {s X A A'} h hl hs => by
    obtain ⟨v, h1, h2, h3, h4⟩ := h
    refine ⟨v, (hs _ (.inr ((h4 _).2 (.inl rfl))) h1.lt).trans h1, h2.same fun b hb => hs b (.inr ((h4 b).2 (.inr hb))) (h2.lt b hb).2, ⟨h3.os |> hl.os.trans, hl.tape.trans h3.tape, hl.output.trans h3.output, Nat.le_trans h3.size hl.size, fun k hk => (hs k (.inl (by omega)) (by have := h3.size; omega)).trans (h3.block k hk)⟩, h4⟩⟩

set_option maxRecDepth 100000 in
set_option maxHeartbeats 4000000 in
theorem appendSeq_any {gf : Nat} {fa lb : Array Value} {xs : List (List UInt8)} {w0 w : World} (eg : ∀ args w, (callFunc gf args).run Try.prog w = .ok (.enter gf args) w)
    (hit : Hands Try.prog gf (fun l => fa ++ #[.func (.yield l) #[] #[]] ++ lb) (fun u : List UInt8 => #[.string (bs u)]) xs w0) (hb0 : Below w0.heap.size w0 w) (hn : xs.length ≤ 1048576) :
    Calls Try.prog 102 #[.slice none 0 0, .func (.func gf) fa lb] w fun e w' => ∃ v, e = .returned v ∧ AStr w.heap.size w' v xs ∧ Below w.heap.size w w' := by
  obtain ⟨w1, hw1⟩ : ∃ w1, w1 = w.alloc (.cells #[.slice none 0 0] 24) := ⟨_, rfl⟩
  have b1 : Below w.heap.size w w1 := by rw [hw1]; exact (Below.refl _ w).alloc (Nat.le_refl _) _
  have z1 : w1.heap.size = w.heap.size + 1 := by rw [hw1]; simp
  have bx : Boxed w1 w.heap.size 24 (.slice none 0 0) := by rw [hw1]; exact Boxed.new w 24 (.slice none 0 0)
  have hW1 := hide hw1
  have HE := hide eg
  have HIT := hide hit
  have hs0 := hb0.size
  clear hw1 eg hit
  refine (callsIn_wide (n := 9)).1 ?_
  refine callsIn_of_wp_marks Try.func102 rfl trivial ?_ rfl
  simp only [Try.ntmps102, List.size_toArray, List.length_cons, List.length_nil, Nat.reduceAdd, Nat.reduceSub, Array.replicate_succ, Array.replicate_zero, List.push_toArray, List.append_toArray, List.nil_append, List.cons_append]
  gi_wp2
  rw [← hW1.out]
  refine range_top (α := List UInt8) (gf := gf) (fa := fa) (lb := lb) (enc := fun u => #[.string (bs u)]) (xs := xs) (w0 := w0) rfl HE.out (fun _ => rfl) HIT.out (hb0.trans (b1.mono hs0)) (Coll w) (fun _ _ _ => False) (fun b => b = w.heap.size)
    (rests_coll w _ (by omega)) (rests_false _) (fun b hb => by omega) ⟨_, bx, AStr.nil_ _ _, b1, fun b => by simp [Value.ownBlock]⟩ ?round ?done ?stop
  case round =>
    intro l1 m1 hl1 t u Y V hI nX ltV hpre
    have hlen : t.length < xs.length := by
      have := hpre.length_le
      simp at this
      omega
    clear hI bx
    gi_wp2
    refine ⟨Kept.refl _ _ _, fun V2 r hb2 hz2 ho2 hl2 hi2 => ?_⟩
    obtain ⟨v, hv, hrow, hB, hY⟩ := hi2
    have hc := hv.cell
    have hsB := hB.size
    have HZ := hide hz2
    clear ho2 hl2 hz2
    gi_wp2_with (gi_at_builtin; refine wpListIn_app_str rfl (.tmp 8) (.tmp 10) rfl w.heap.size v t u 1 rfl rfl hrow (by omega) (by omega) ?_; intro v3 w3 hr3 hg3 ho3; obtain ⟨g3, c3, rfl⟩ := ownsRow_succ (k := t.length) (show w3.ownsRow w.heap.size 9 1 v3 (t.length + 1) ((t ++ [u]).map fun u => Value.string (bs u)) from by have := hr3; unfold AStr at this; simpa using this); have hv3 : Boxed w3 w.heap.size 24 v := (hv.alloc _).kept hg3 (hv.not_row (by decide) hrow); have hc3 := hv3.cell; have hf3 := hv3.frozen)
    have hr4 := hr3
    unfold AStr at hr4
    obtain ⟨_, p2, p3, p4, p5⟩ := hv.appended (by decide) hrow hB.size (Nat.le_refl _) hr4 hg3
    have hz := HZ.out
    refine ⟨fun b => b = w.heap.size ∨ (Value.slice (some ⟨g3, 0, none⟩) (t.length + 1) c3).ownBlock = some b, fun b hb => ?_, ⟨p5.mono (Nat.zero_le _), fun b hb hx => ?_⟩, _, p2, p3, hB.trans p5, fun b => Iff.rfl⟩
    · rcases hb with rfl | hb
      · exact .inl ((hY _).2 (.inl rfl))
      · rcases ho3 with e | e
        · exact .inl ((hY b).2 (.inr (e ▸ hb)))
        · rw [e] at hb
          injection hb with hb
          exact .inr (by omega)
    · have n1 : b ≠ w.heap.size := fun e => hx ((hY b).2 (.inl e))
      have n2 : some b ≠ v.ownBlock := fun e => hx ((hY b).2 (.inr e.symm))
      refine (Below.heap_setCell _ _ _ _ n1).trans ((hg3.block b (by simp; omega) n2).trans ?_)
      exact Below.heap_alloc _ _ _ (by omega)
  case done =>
    rintro Y V ⟨v, hv, hrow, hB, hY⟩ nD hD
    have hc := hv.cell
    have HZ1 := hide z1
    clear z1 bx
    gi_wp2
    refine ⟨by simp, .inl ⟨_, _, rfl, run_takeDeferred hD, ?_⟩⟩
    refine ⟨_, results_tmp rfl _ _ _, v, rfl, hrow.same fun b hb => World.putObj_heap_other (fun e => nD (e ▸ (hY b).2 (.inr hb))), hB.trans ⟨rfl, rfl, rfl, by simp, fun k hk => World.putObj_heap_other (by have := HZ1.out; omega)⟩⟩
  case stop =>
    rintro t Y V h
    exact h.elim
set_option maxHeartbeats 1000000 in
theorem collect_any {gf : Nat} {fa lb : Array Value} {xs : List (List UInt8)} {w0 w : World} (eg : ∀ args w, (callFunc gf args).run Try.prog w = .ok (.enter gf args) w)
    (hit : Hands Try.prog gf (fun l => fa ++ #[.func (.yield l) #[] #[]] ++ lb) (fun u : List UInt8 => #[.string (bs u)]) xs w0) (hb0 : Below w0.heap.size w0 w) (hn : xs.length ≤ 1048576) :
    Calls Try.prog 82 #[.func (.func gf) fa lb] w fun e w' => ∃ v, e = .returned v ∧ AStr w.heap.size w' v xs ∧ Below w.heap.size w w' := by
  have HE := hide eg
  have HIT := hide hit
  clear eg hit
  go_enter Try.func82, Try.ntmps82
  go_wp2_with fail
  refine (appendSeq_any HE.out HIT.out hb0 hn).mono ?_
  rintro e w1 ⟨v, rfl, hA, hB⟩
  go_wp2
  go_ret
  exact ⟨v, rfl, hA, hB⟩
set_option maxHeartbeats 1000000 in
/-- slices.Sorted of an iterator that hands over xs, which are some. -/
theorem sorted_any {gf : Nat} {fa lb : Array Value} {xs : List (List UInt8)} {w0 w : World} (eg : ∀ args w, (callFunc gf args).run Try.prog w = .ok (.enter gf args) w)
    (hit : Hands Try.prog gf (fun l => fa ++ #[.func (.yield l) #[] #[]] ++ lb) (fun u : List UInt8 => #[.string (bs u)]) xs w0) (hb0 : Below w0.heap.size w0 w) (hne : 0 < xs.length) (hn : xs.length ≤ 1048576) :
    Calls Try.prog 51 #[.func (.func gf) fa lb] w (OwnStr w (srt xs)) := by
  have HE := hide eg
  have HIT := hide hit
  have HS := hide (len_srt xs)
  clear eg hit
  go_enter Try.func51, Try.ntmps51
  go_wp2_with fail
  refine (collect_any HE.out HIT.out hb0 hn).mono ?_
  rintro e w1 ⟨v, rfl, hA, hB⟩
  obtain ⟨A, c, rfl, l1, l2, _⟩ := hA.ostr
  have hs1 := hB.size
  go_wp2_with fail
  refine (iSort_any hA hne hn hs1).mono ?_
  rintro e w2 ⟨rfl, hA2, hB2⟩
  go_wp2
  go_ret
  rw [← HS.out] at hA2
  obtain ⟨A', c', he, l1', l2', hO⟩ := hA2.ostr
  rw [HS.out] at he
  exact ⟨A', c', by rw [HS.out]; exact congrArg Ending.returned he, hB.trans hB2, hO, l1', l2'⟩
set_option maxHeartbeats 1000000 in
theorem iFullWords_any (s : Int) (w : World) : Calls Try.prog 14 #[.int .i64 s] w (OwnStr w (fullL s)) := by
  cases hc : (decide (1 ≤ s) && decide (s ≤ 7))
  · have hf := hide (fullL_not hc)
    have hd : (decide (s < 1) || decide (s ≥ 8)) = true := by
      rw [Bool.and_eq_false_iff, decide_eq_false_iff_not, decide_eq_false_iff_not] at hc
      simp only [Bool.or_eq_true, decide_eq_true_iff]
      omega
    by_cases h1 : s < 1
    · go_enter Try.func14, Try.ntmps14
      go_wp2
      go_ret
      rw [hf.out]
      exact ⟨none, 0, rfl, Below.refl _ _, OStr.nil _ _ _ _, Nat.le_refl _, by omega⟩
    · have h8 : s ≥ 8 := by
        rw [Bool.and_eq_false_iff, decide_eq_false_iff_not, decide_eq_false_iff_not] at hc
        omega
      clear hc hd
      go_enter Try.func14, Try.ntmps14
      go_wp2
      go_ret
      rw [hf.out]
      exact ⟨none, 0, rfl, Below.refl _ _, OStr.nil _ _ _ _, Nat.le_refl _, by omega⟩
  · have h17 : 1 ≤ s ∧ s ≤ 7 := by simpa using hc
    obtain ⟨n, rfl⟩ : ∃ n : Nat, s = n := ⟨s.toNat, by omega⟩
    have hn1 : 1 ≤ n := by omega
    have hn8 : n < 8 := by omega
    have h1 : ¬ ((n : Int) < 1) := by omega
    have h8 : ¬ ((n : Int) ≥ 8) := by omega
    have hl := fw_len hn1 hn8
    have HF := hide (srt_fw hn1 hn8)
    clear hc h17
    go_enter Try.func14, Try.ntmps14
    go_wp2_with fail
    refine (sorted_any (w0 := bare w) (xs := fwF 3 n) (enters_of Try.func52 (by kernel_rfl) rfl) (full_hands 3 n (by omega) hn1 hn8 (num_le hn8) (bare w)) (below_bare w) hl.1 (by omega)).mono ?_
    rw [HF.out]
    rintro e w1 ⟨A, c, rfl, hB, hO, l1, l2⟩
    go_wp2
    go_ret
    exact ⟨A, c, rfl, hB, hO, l1, l2⟩
end Go.Proofs.Ytjmjfmgbfjmaaaa
