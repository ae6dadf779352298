
/- All rows of different letters, one after the other: the landed code's iterator. -/
import Derived.Test.YtnennilpedediaaIsignD
import Derived.Test.YtnennilpedediaaIfreeB
namespace Go.Proofs.Ytnennilpedediaa
open Go.RowKit
set_option linter.unusedVariables false
set_option linter.unusedSimpArgs false
attribute [local go_sem] Oper.semAt_some

/-- A letter, and it ahead of the rows of the other ones. -/
def rdI (g : Nat → List (List UInt8)) (s i : Nat) : List (List UInt8) := [lx i] :: (g (s - 2 ^ i)).map fun u => [lx i] ++ u
def rdL (g : Nat → List (List UInt8)) (s : Nat) : List (List UInt8) := (numN s).flatMap (rdI g s)
def rdF : Nat → Nat → List (List UInt8)
  | 0, _ => []
  | f + 1, s => rdL (rdF f) s
/-- What has come when k letters are done. -/
def rdK (g : Nat → List (List UInt8)) (s k : Nat) : List (List UInt8) := ((numN s).take k).flatMap (rdI g s)
section
variable {g : Nat → List (List UInt8)} {s k i : Nat} {t : List (List UInt8)} {u : List UInt8}
theorem rdK_all : rdK g s (numN s).length = rdL g s := by unfold rdK rdL; rw [List.take_length]
theorem rdK_succ (h : k < (numN s).length) (hi : i = (numN s).getD k 0) : rdK g s (k + 1) = rdK g s k ++ [[lx i]] ++ (g (s - 2 ^ i)).map fun u => [lx i] ++ u := by
  unfold rdK
  rw [List.take_succ_eq_append_getElem h, List.flatMap_append, List.flatMap_cons, List.flatMap_nil, List.append_nil]
  have : (numN s)[k] = i := by rw [hi]; simp [List.getD, h]
  rw [this]
  simp [rdI]
theorem rdK_pre (h : k < (numN s).length) : rdK g s (k + 1) <+: rdL g s := by
  unfold rdK rdL
  conv => rhs; rw [← List.take_append_drop (k + 1) (numN s), List.flatMap_append]
  exact List.prefix_append _ _
theorem rdK_step1 (h : k < (numN s).length) (hi : i = (numN s).getD k 0) : rdK g s k ++ [[lx i]] <+: rdL g s := by
  refine List.IsPrefix.trans ?_ (rdK_pre h)
  rw [rdK_succ h hi]
  exact List.prefix_append _ _
theorem rdK_step2 (h : k < (numN s).length) (hi : i = (numN s).getD k 0) (hp : t ++ [u] <+: g (s - 2 ^ i)) : (rdK g s k ++ [[lx i]] ++ t.map fun u => [lx i] ++ u) ++ [[lx i] ++ u] <+: rdL g s := by
  refine List.IsPrefix.trans ?_ (rdK_pre h)
  rw [rdK_succ h hi, List.append_assoc (rdK g s k ++ [[lx i]])]
  refine (List.prefix_append_right_inj _).2 ?_
  have := hp.map fun u => [lx i] ++ u
  rwa [List.map_append] at this
end
theorem num_less {s i : Nat} (h : s < 8) (hi : i ∈ numN s) : s - 2 ^ i < 8 ∧ (numN (s - 2 ^ i)).length + 1 = (numN s).length := by
  have hh : ∀ (s : Fin 8) (i : Fin 3), (i : Nat) ∈ numN s → (s : Nat) - 2 ^ (i : Nat) < 8 ∧ (numN ((s : Nat) - 2 ^ (i : Nat))).length + 1 = (numN s).length := by decide
  exact hh ⟨s, h⟩ ⟨i, (num_lt hi).1⟩ hi
theorem rd_short {f : Nat} (hf : f < 4) {s : Nat} (h : s < 8) : ∀ u, u ∈ rdF f s → u.length ≤ 10 := by
  have hh : ∀ (f : Fin 4) (s : Fin 8), ((rdF f s).all fun u => decide (u.length ≤ 10)) = true := by decide +kernel
  intro u hu
  have := List.all_eq_true.1 (hh ⟨f, hf⟩ ⟨s, h⟩) u hu
  simpa using this
theorem pre_mem9 {α : Type} {P L : List α} {p : α} (h : P ++ [p] <+: L) : p ∈ L := h.subset (List.mem_append_right _ (List.mem_singleton.2 rfl))

set_option maxRecDepth 100000 in
set_option maxHeartbeats 4000000 in
theorem rows_step (s : Nat) (hs : s < 8) (g : Nat → List (List UInt8)) (hsh : ∀ i, i ∈ numN s → ∀ u, u ∈ g (s - 2 ^ i) → u.length ≤ 10)
    (hin : ∀ i, i ∈ numN s → ∀ w, Hands Try.prog 60 (fun l => #[.int .i64 (s - 2 ^ i : Nat)] ++ #[.func (.yield l) #[] #[]] ++ #[]) (fun u : List UInt8 => #[.string (bs u)]) (g (s - 2 ^ i)) w) (w : World) :
    Hands Try.prog 60 (fun l => #[.int .i64 s] ++ #[.func (.yield l) #[] #[]] ++ #[]) (fun u : List UInt8 => #[.string (bs u)]) (rdL g s) w := by
  intro l J Jx X W hW hX hJ hJx h0 hY m
  have HIN := hide hin
  have HSH := hide hsh
  have HY := hide hY
  have HT := hide (thk_num hs)
  obtain ⟨W0, hW0⟩ : ∃ W0, W0 = W.alloc (.cells #[.func (.yield l) #[] #[]] 35) := ⟨_, rfl⟩
  have b0 : Below W.heap.size W W0 := by rw [hW0]; exact (Below.refl W.heap.size W).alloc (Nat.le_refl _) _
  have e0 : W0.heap[W.heap.size]? = some (.cells #[.func (.yield l) #[] #[]] 35) := by rw [hW0]; exact heap_alloc_new W _
  have z0 : W0.heap.size = W.heap.size + 1 := by rw [hW0]; simp
  have HW0 := hide hW0
  clear hW0 hY hin hsh
  refine callsIn_of_wp_marks Try.func60 rfl trivial ?_ rfl
  simp only [Try.ntmps60, List.size_toArray, List.length_cons, List.length_nil, Nat.reduceAdd, Nat.reduceSub, Array.replicate_succ, Array.replicate_zero, List.push_toArray, List.append_toArray, List.nil_append, List.cons_append]
  gi_wp2
  rw [← HW0.out]
  gi_wp2_with fail
  refine ⟨trivial, (fun hd => by simp [Fence.wide] at hd), (callsIn_wide.2 (thingsIn_any s W0 (by omega))).mono ?_⟩
  rintro e w1 ⟨A, c, rfl, b1, hR, _, _⟩
  have hL : (thk s 9).length = (numN s).length := by rw [HT.out, List.length_map]
  have hR2 : ∀ k, k < (numN s).length → ∃ bn on, A = some ⟨bn, on, none⟩ ∧ W.heap.size + 1 ≤ bn ∧ bn < w1.heap.size ∧ w1.cell? ⟨bn, on + k, none⟩ = some (.int .i64 ((numN s).getD k 0 : Nat)) := fun k hk => by
    obtain ⟨b', o', e1, h1, h2, hc⟩ := hR k (by rw [hL]; exact hk)
    refine ⟨b', o', e1, by omega, h2, ?_⟩
    rw [hc, HT.out]
    simp [el, List.getD, hk]
  have B1 : Below W.heap.size W w1 := b0.trans (b1.mono (by omega))
  have hj1 : J [] X w1 := hJ.move h0 (B1.mono (Nat.zero_le _)) (fun b hb hlt => B1.block b hlt)
  have e1 : w1.heap[W.heap.size]? = some (.cells #[.func (.yield l) #[] #[]] 35) := (b1.block _ (by omega)).trans e0
  have hX1 : ∀ b, X b → b < W.heap.size := hJ.there h0
  have hM1 : ∀ b, W.heap.size ≤ b → ¬ X b := fun b hb k => by have := hX1 b k; omega
  have hs1 := b1.size
  have HR := hide hR2
  rw [hL]
  obtain ⟨n, hn⟩ : ∃ n, n = (numN s).length := ⟨_, rfl⟩
  rw [← hn]
  have HNN := hide hn
  have hn3 : n ≤ 3 := by rw [hn]; exact num_le hs
  clear hR hL hR2 hn HT hX1
  gi_wp2
  refine wpIn_loop (fun a V => ∃ (k : Nat) (rs : List Nat) (Y : Nat → Prop) (v5 v6 v12 v13 v14 v15 v16 v17 v18 v19 v20 v21 v22 v23 v24 v32 : Value), k ≤ n ∧
      a = { tmps := #[.int .i64 s, .func (.yield l) #[] #[], undef, .pointer (some ⟨W.heap.size, 0, none⟩), undef, v5, v6, undef, .int .i64 s, .slice A n c, .int .i64 n, .int .i64 k, v12, v13, v14, v15, v16, v17, v18, v19, v20, v21, v22, v23, v24, undef, undef, undef, undef, undef, undef, undef, v32], defers := rs.map markD } ∧
      Hid (J (rdK g s k) Y V ∧ (∀ b, W.heap.size ≤ b → b < w1.heap.size → V.heap[b]? = w1.heap[b]? ∧ ¬ Y b) ∧ rs.Nodup ∧ ∀ r ∈ rs, V.heap[r]? = some (.deferred (some [])) ∧ ¬ Y r ∧ W.heap.size ≤ r) ∧ Hid (w1.heap.size ≤ V.heap.size))
    (fun a _ => n - (intOf (a.tmps.getD 11 undef)).toNat) ⟨0, [], X, undef, undef, undef, undef, undef, undef, undef, undef, undef, undef, undef, undef, undef, undef, undef, undef, Nat.zero_le _, rfl, ⟨hj1, fun b h1 h2 => ⟨rfl, hM1 b h1⟩, List.nodup_nil, fun r hr => by cases hr⟩, Nat.le_refl _⟩ ?_
  rintro a V ⟨k, rs, Y, v5, v6, v12, v13, v14, v15, v16, v17, v18, v19, v20, v21, v22, v23, v24, v32, hk, rfl, HI, HZ⟩
  clear hj1 hM1
  by_cases hlt : k < n
  · have hki : (k : Int) < (n : Int) := by omega
    obtain ⟨hj, hm, hnd, hd⟩ := HI.out
    have hzV := HZ.out
    obtain ⟨i, hi⟩ : ∃ i, i = (numN s).getD k 0 := ⟨_, rfl⟩
    have hk' : k < (numN s).length := by rw [← HNN.out]; exact hlt
    have himem : i ∈ numN s := by
      rw [hi, List.getD_eq_getElem?_getD, List.getElem?_eq_getElem hk']
      exact List.getElem_mem _
    have hi3 := (num_lt himem).1
    have hib := (num_lt himem).2
    obtain ⟨bn, on, rfl, hbn1, hbn2, hcw⟩ := HR.out k hk'
    have hcell : V.cell? ⟨bn, on + k, none⟩ = some (.int .i64 (i : Nat)) := by
      rw [hi]
      exact (World.cell?_of_block (w := w1) (hm bn (by omega) hbn2).1).trans hcw
    have eWV : V.heap[W.heap.size]? = some (.cells #[.func (.yield l) #[] #[]] 35) := (hm _ (Nat.le_refl _) (by omega)).1.trans e1
    have cY : V.cell? ⟨W.heap.size, 0, none⟩ = some (.func (.yield l) #[] #[]) := by rw [cell_of_row V W.heap.size 0 _ _ _ eWV]; rfl
    have lW : W.heap.size < V.heap.size := by omega
    have bV : Below V.heap.size V (V.alloc (.cells #[.string (bs [lx i])] 9)) := (Below.refl _ V).alloc (Nat.le_refl _) _
    have zV : (V.alloc (.cells #[.string (bs [lx i])] 9)).heap.size = V.heap.size + 1 := by simp
    have eN : (V.alloc (.cells #[.string (bs [lx i])] 9)).heap[V.heap.size]? = some (.cells #[.string (bs [lx i])] 9) := heap_alloc_new V _
    have hj2 : J (rdK g s k) Y (V.alloc (.cells #[.string (bs [lx i])] 9)) := hJ.move hj (bV.mono (Nat.zero_le _)) (fun b _ hlt => bV.block b hlt)
    obtain ⟨fn', tm', as', bd', hy, hRy⟩ := HY.out (rdK g s k) [lx i] Y (V.alloc (.cells #[.string (bs [lx i])] 9)) (m - 1) hj2 (rdK_step1 hk' hi)
    try dsimp only at hy
    have HRY := hide hRy
    have HII := hide hi
    have HIB := hide hib
    have HMM := hide himem
    have HJ := hide (And.intro hm (And.intro hnd hd))
    have HYL := hide (hJ.there hj)
    have HBV := hide bV
    have HEN := hide eN
    have HEW := hide eWV
    have HKK := hide hk'
    clear hi hm hnd hd HI hib hcw himem hj hj2 hRy bV eN eWV hk' HZ
    gi_wp2
    refine ⟨trivial, (fun hd => by simp [Fence.wide] at hd), (callsIn_wide.2 (letterAt_any i _ hi3)).mono ?_⟩
    rintro e w2 ⟨rfl, rfl⟩
    gi_wp2
    refine ⟨(fun hd => by simp [Fence.wide] at hd), RoundIn.mono (show RoundIn Fence.wide (m - 1) _ _ _ _ _ _ _ _ from HRY.out) ?_⟩
    obtain ⟨hm, hnd, hd⟩ := HJ.out
    have bV := HBV.out
    have hYl := HYL.out
    have hrl : ∀ r ∈ rs, r < w2.heap.size := fun r hr => (Array.getElem?_eq_some_iff.1 (hd r hr).1).1
    rintro e U4 ⟨Z4, hg4, hk4, ⟨rfl, hj4⟩ | ⟨rfl, hj4⟩⟩
    · have zU : w2.heap.size + 1 ≤ U4.heap.size := by have := hk4.low.size; rw [zV] at this; exact this
      rw [zV] at hg4 hk4
      have hold : ∀ b, b < w2.heap.size → ¬ Y b → U4.heap[b]? = w2.heap[b]? ∧ ¬ Z4 b := fun b hb hx => ⟨(hk4.same b (by omega) hx).trans (bV.block b hb), fun hz => by
        rcases hg4 b hz with h | h
        · exact hx h
        · omega⟩
      have hnew : U4.heap[w2.heap.size]? = some (.cells #[.string (bs [lx i])] 9) ∧ ¬ Z4 w2.heap.size := ⟨(hk4.same _ (by omega) (fun hy => by have := hYl _ hy; omega)).trans HEN.out, fun hz => by
        rcases hg4 _ hz with h | h
        · have := hYl _ h; omega
        · omega⟩
      have eW4 : U4.heap[W.heap.size]? = some (.cells #[.func (.yield l) #[] #[]] 35) := (hold _ lW (hm _ (Nat.le_refl _) (by omega)).2).1.trans HEW.out
      obtain ⟨O, hO⟩ : ∃ O, O = W.heap.size :: w2.heap.size :: (List.range w1.heap.size).filter (fun b => decide (W.heap.size ≤ b)) ++ rs := ⟨_, rfl⟩
      have hOl : ∀ b ∈ O, b < U4.heap.size := fun b hb => by
        rw [hO] at hb
        simp only [List.cons_append, List.mem_cons, List.mem_append, List.mem_filter, List.mem_range] at hb
        rcases hb with rfl | rfl | hb | hb
        · omega
        · omega
        · omega
        · have := hrl b hb; omega
      have hM2 : Mine O U4 Z4 U4 := fun b hb => ⟨rfl, by
        rw [hO] at hb
        simp only [List.cons_append, List.mem_cons, List.mem_append, List.mem_filter, List.mem_range, decide_eq_true_eq] at hb
        rcases hb with rfl | rfl | hb | hb
        · exact (hold _ lW (hm _ (Nat.le_refl _) (by omega)).2).2
        · exact hnew.2
        · exact (hold _ (by omega) (hm _ hb.2 hb.1).2).2
        · exact (hold _ (hrl b hb) (hd b hb).2.1).2⟩
      have mW : W.heap.size ∈ O := by rw [hO]; simp
      have mN : w2.heap.size ∈ O := by rw [hO]; simp
      have mB : ∀ b, W.heap.size ≤ b → b < w1.heap.size → b ∈ O := fun b h1 h2 => by rw [hO]; simp [h1, h2]
      have mr : ∀ r ∈ rs, r ∈ O := fun r hr => by rw [hO]; simp [hr]
      have hr2 : ∀ r ∈ rs, U4.heap[r]? = some (.deferred (some [])) := fun r hr => (hold r (hrl r hr) (hd r hr).2.1).1.trans (hd r hr).1
      have hrW : ∀ r ∈ rs, W.heap.size ≤ r := fun r hr => (hd r hr).2.2
      have hBb : ∀ b, W.heap.size ≤ b → b < w1.heap.size → U4.heap[b]? = w1.heap[b]? := fun b h1 h2 => (hold b (by omega) (hm b h1 h2).2).1.trans (hm b h1 h2).1
      have hrl4 : ∀ r ∈ rs, r < U4.heap.size := fun r hr => by have := hrl r hr; omega
      have hsW := hW.size
      have HO := hide hO
      have HND := hide hnd
      have HP := hide (fun (t : List (List UInt8)) (u : List UInt8) (hp : t ++ [u] <+: g (s - 2 ^ i)) => rdK_step2 HKK.out HII.out hp)
      have HS := hide (rdK_succ (g := g) HKK.out HII.out)
      have HNW := hide hnew
      have HE4 := hide eW4
      have HHR := hide hr2
      have HBB := hide hBb
      have HRW := hide hrW
      have HRL := hide hrl4
      have HZU := hide zU
      clear hO hm hd hnd hold hnew hg4 hk4 hrl hr2 hBb hrW hrl4 HJ HYL hYl bV HBV HEN HEW eW4 hcell cY hy
      gi_wp2
      refine ⟨trivial, (fun hd => by simp [Fence.wide] at hd), (callsIn_wide.2 (without_any s i _ hs hi3 HIB.out)).mono ?_⟩
      rintro e w3 ⟨rfl, rfl⟩
      gi_wp2
      refine range_top (α := List UInt8) (gf := 60) (fa := #[.int .i64 (s - 2 ^ i : Nat)]) (lb := #[]) (enc := fun u => #[.string (bs u)]) (xs := g (s - 2 ^ i)) (w0 := bare w3) rfl (enters_of Try.func60 (by kernel_rfl) rfl) (fun _ => rfl)
        (HIN.out i HMM.out (bare w3)) (below_bare w3) (fun t Z U => J (rdK g s k ++ [[lx i]] ++ t.map fun u => [lx i] ++ u) Z U ∧ Mine O w3 Z U) (fun t Z U => Jx (rdK g s k ++ [[lx i]] ++ t.map fun u => [lx i] ++ u) Z U ∧ Mine O w3 Z U) Z4
        (rests_mine (fun t => rdK g s k ++ [[lx i]] ++ t.map fun u => [lx i] ++ u) hJ (by have := HZU.out; omega) hOl) (rests_mine (fun t => rdK g s k ++ [[lx i]] ++ t.map fun u => [lx i] ++ u) hJx (by have := HZU.out; omega) hOl) (fun b hb => Nat.zero_le _) ⟨by rw [List.map_nil, List.append_nil]; exact hj4, hM2⟩ ?round ?done ?stop
      case round =>
        intro l1 m1 hl1 t u Z U hI nX ltU hpre
        have HPRE := hide hpre
        have hul := HSH.out i HMM.out u (pre_mem9 hpre)
        clear hj4 hM2 hI hpre
        gi_wp2
        refine ⟨Kept.refl _ _ _, fun U2 r hb2 hz2 ho2 hl2 hi2 => ?_⟩
        obtain ⟨hJ2, hM2⟩ := hi2
        have cY2 : U2.cell? ⟨W.heap.size, 0, none⟩ = some (.func (.yield l) #[] #[]) := by rw [cell_of_row U2 W.heap.size 0 _ _ _ ((hM2 _ mW).1.trans HE4.out)]; rfl
        have cN2 : U2.cell? ⟨w2.heap.size, 0, none⟩ = some (.string (bs [lx i])) := by rw [cell_of_row U2 w2.heap.size 0 _ _ _ ((hM2 _ mN).1.trans HNW.out.1)]; rfl
        have hadd : ∀ w, (Op.stringOp .add (bs [lx i]) (bs u)).run Try.prog w = .ok (.string (bs ([lx i] ++ u))) w := fun w => (run_string_add_sum w _ _ (by rw [size_bs, size_bs]; simp; omega)).trans (by rw [app_bs])
        obtain ⟨fn2, tm2, as2, bd2, hy2, hR2⟩ := HY.out _ _ Z U2 (m1 - 1) hJ2 (HP.out t u HPRE.out)
        try dsimp only at hy2
        have HG := hide (fun U4 Z4 h1 h2 h3 act => ends_go (J := J) (Ix := fun t Z U => Jx (rdK g s k ++ [[lx i]] ++ t.map fun u => [lx i] ++ u) Z U ∧ Mine O w3 Z U) (fun t => rdK g s k ++ [[lx i]] ++ t.map fun u => [lx i] ++ u) (t := t) (u := u) (x := [lx i] ++ u) (U3 := U2) (U4 := U4) (Z4 := Z4) (by rw [List.map_append, ← List.append_assoc]; rfl) hM2 hOl rfl hz2.symm (Below.refl _ _) h1 h2 h3 act)
        have HX := hide (fun U4 Z4 h1 h2 h3 act => ends_ret (Jx := Jx) (I := fun t Z U => J (rdK g s k ++ [[lx i]] ++ t.map fun u => [lx i] ++ u) Z U ∧ Mine O w3 Z U) (fun t => rdK g s k ++ [[lx i]] ++ t.map fun u => [lx i] ++ u) (t := t) (u := u) (x := [lx i] ++ u) (U3 := U2) (U4 := U4) (Z4 := Z4) (by rw [List.map_append, ← List.append_assoc]; rfl) hM2 hOl rfl hz2.symm (Below.refl _ _) h1 h2 h3 act)
        have HRR := hide hR2
        generalize bs ([lx i] ++ u) = q at hadd hy2 HRR
        generalize bs [lx i] = q1 at hadd cN2
        clear hR2 hJ2 hM2 ho2 hb2 hl2 hul
        gi_wp2
        refine ⟨(fun hd => by simp [Fence.wide] at hd), RoundIn.mono (show RoundIn (Fence.wide.inRound l1) (m1 - 1) _ _ _ _ _ _ _ _ from HRR.out) ?_⟩
        rintro e U5 ⟨Z5, hg5, hk5, ⟨rfl, hj5⟩ | ⟨rfl, hj5⟩⟩
        · gi_wp2
          exact HG.out U5 Z5 hg5 hk5 hj5 _
        · gi_wp2
          exact HX.out U5 Z5 hg5 hk5 hj5 _
      case done =>
        rintro Z U ⟨hj3, hM3⟩ nD hD
        have hN1 : (w3.heap.size :: rs).Nodup := List.nodup_cons.2 ⟨fun h => by have := HRL.out _ h; omega, HND.out⟩
        have hm4 : ∀ b, W.heap.size ≤ b → b < w1.heap.size → U.heap[b]? = w1.heap[b]? ∧ ¬ Z b := fun b h1 h2 => ⟨(hM3 _ (mB b h1 h2)).1.trans (HBB.out b h1 h2), (hM3 _ (mB b h1 h2)).2⟩
        have hd4 : ∀ r ∈ w3.heap.size :: rs, U.heap[r]? = some (.deferred (some [])) ∧ ¬ Z r ∧ W.heap.size ≤ r := fun r hr => by
          rcases List.mem_cons.1 hr with rfl | hr
          · exact ⟨hD, nD, by have := HZU.out; omega⟩
          · exact ⟨(hM3 _ (mr r hr)).1.trans (HHR.out r hr), (hM3 _ (mr r hr)).2, HRW.out r hr⟩
        have hzz : w1.heap.size ≤ U.heap.size := by have := (Array.getElem?_eq_some_iff.1 hD).1; have := HZU.out; omega
        have HF := hide (And.intro (show J (rdK g s (k + 1)) Z U from by rw [HS.out]; exact hj3) (And.intro hm4 (And.intro hN1 hd4)))
        have HZ2 := hide hzz
        clear hj3 hM3 hD hN1 hm4 hd4 hj4 hM2 hzz
        gi_wp2
        refine ⟨⟨k + 1, w3.heap.size :: rs, Z, ?_⟩, ?_⟩
        · iterate 16 apply Exists.intro
          refine ⟨by omega, ?_, HF.out, HZ2.out⟩
          rw [show ((k + 1 : Nat) : Int) = (k : Int) + 1 from by omega]
          rfl
        · simp [intOf]
          omega
      case stop =>
        rintro t Z U ⟨hj3, hM3⟩ nD hD
        gi_wp2
        refine leaves_marks (w3.heap.size :: rs) U (List.nodup_cons.2 ⟨fun h => by have := HRL.out _ h; omega, HND.out⟩) (fun r hr => ?_) fun V' hl hs => ?_
        · rcases List.mem_cons.1 hr with rfl | hr
          · exact hD
          · exact (hM3 _ (mr r hr)).1.trans (HHR.out r hr)
        · refine ⟨_, results_none rfl _ _ _, ⟨_, rfl⟩, .inr ⟨_, Z, hJx.move hj3 hl fun b hb hlt => hs b fun hr => ?_⟩⟩
          rcases List.mem_cons.1 hr with rfl | hr
          · rcases hb with hb | hb
            · have := HZU.out; omega
            · exact nD hb
          · rcases hb with hb | hb
            · have := HRW.out b hr; omega
            · exact (hM3 _ (mr b hr)).2 hb
    · rw [zV] at hg4 hk4
      have hold : ∀ b, b < w2.heap.size → ¬ Y b → U4.heap[b]? = w2.heap[b]? ∧ ¬ Z4 b := fun b hb hx => ⟨(hk4.same b (by omega) hx).trans (bV.block b hb), fun hz => by
        rcases hg4 b hz with h | h
        · exact hx h
        · omega⟩
      have HL := hide hold
      have HD := hide hd
      have HND := hide hnd
      have HRL := hide hrl
      clear hold hg4 hk4 hd hm hnd hrl bV HBV HEN HEW hcell cY hy
      gi_wp2
      refine leaves_marks rs U4 HND.out (fun r hr => (HL.out r (HRL.out r hr) (HD.out r hr).2.1).1.trans (HD.out r hr).1) fun V' hl hs => ?_
      refine ⟨_, results_none rfl _ _ _, ⟨_, rfl⟩, .inr ⟨_, Z4, hJx.move hj4 hl fun b hb hlt => hs b fun hr => ?_⟩⟩
      rcases hb with hb | hb
      · have := (HD.out b hr).2.2; omega
      · exact (HL.out b (HRL.out b hr) (HD.out b hr).2.1).2 hb
  · obtain rfl : n = k := by omega
    obtain ⟨hj, hm, hnd, hd⟩ := HI.out
    gi_wp2
    refine leaves_marks rs V hnd (fun r hr => (hd r hr).1) fun V' hl hs => ?_
    exact ⟨_, results_none rfl _ _ _, ⟨_, rfl⟩, .inl ⟨Y, hJ.move (show J (rdL g s) Y V from by rw [← rdK_all, ← HNN.out]; exact hj) hl fun b hb hlt => hs b fun hr => by
      obtain ⟨_, h2, h3⟩ := hd b hr
      rcases hb with hb | hb
      · omega
      · exact h2 hb⟩⟩
theorem rows_hands : ∀ (f s : Nat), f < 4 → s < 8 → (numN s).length ≤ f → ∀ w, Hands Try.prog 60 (fun l => #[.int .i64 s] ++ #[.func (.yield l) #[] #[]] ++ #[]) (fun u : List UInt8 => #[.string (bs u)]) (rdF f s) w
  | 0, s, _, hs, hf, w => by
    have hn : numN s = [] := List.eq_nil_of_length_eq_zero (by omega)
    have := rows_step s hs (fun _ => []) (fun i hi => by rw [hn] at hi; cases hi) (fun i hi => by rw [hn] at hi; cases hi) w
    have e : rdL (fun _ => []) s = rdF 0 s := by unfold rdL rdF; rw [hn]; rfl
    rwa [e] at this
  | f + 1, s, h4, hs, hf, w => rows_step s hs (rdF f) (fun i hi u hu => rd_short (by omega) (num_less hs hi).1 u hu) (fun i hi => rows_hands f _ (by omega) (num_less hs hi).1 (by have := (num_less hs hi).2; omega)) w
theorem af_rd {m : Nat} (h1 : 1 ≤ m) (h3 : m ≤ 3) : rdF 3 (2 ^ m - 1) = afW (m : Int) := by
  have hh : ∀ m : Fin 4, 1 ≤ (m : Nat) → rdF 3 (2 ^ (m : Nat) - 1) = afA m m := by decide +kernel
  rw [hh ⟨m, by omega⟩ h1]
  unfold afW
  have hm : (decide (1 ≤ (m : Int)) && decide ((m : Int) ≤ 3)) = true := by
    rw [Bool.and_eq_true, decide_eq_true_iff, decide_eq_true_iff]; omega
  rw [if_pos hm]
  simp
set_option maxHeartbeats 1000000 in
theorem iAllFirsts_any (m : Int) (w : World) : Calls Try.prog 26 #[.int .i64 m] w (OwnStr w (afW m)) := by
  cases hc : (decide (1 ≤ m) && decide (m ≤ 3))
  · have hf := hide (afW_not hc)
    by_cases h1 : m < 1
    · clear hc
      go_enter Try.func26, Try.ntmps26
      go_wp2
      go_ret
      rw [hf.out]
      exact ⟨none, 0, rfl, Below.refl _ _, OStr.nil _ _ _ _, Nat.le_refl _, by omega⟩
    · have h8 : m > 3 := by
        rw [Bool.and_eq_false_iff, decide_eq_false_iff_not, decide_eq_false_iff_not] at hc
        omega
      clear hc
      go_enter Try.func26, Try.ntmps26
      go_wp2
      go_ret
      rw [hf.out]
      exact ⟨none, 0, rfl, Below.refl _ _, OStr.nil _ _ _ _, Nat.le_refl _, by omega⟩
  · have h13 : 1 ≤ m ∧ m ≤ 3 := by simpa using hc
    obtain ⟨n, rfl⟩ : ∃ n : Nat, m = n := ⟨m.toNat, by omega⟩
    have hn1 : 1 ≤ n := by omega
    have hn3 : n ≤ 3 := by omega
    have h1 : ¬ ((n : Int) < 1) := by omega
    have h3 : ¬ ((n : Int) > 3) := by omega
    have hs8 : 2 ^ n - 1 < 8 := by
      have : 2 ^ n ≤ 2 ^ 3 := Nat.pow_le_pow_right (by omega) hn3
      omega
    have hlen : (rdF 3 (2 ^ n - 1)).length ≤ 1048576 := by
      have hh : ∀ s : Fin 8, (rdF 3 s).length ≤ 15 := by decide +kernel
      have := hh ⟨_, hs8⟩
      simp only at this
      omega
    have HF := hide (af_rd hn1 hn3)
    obtain ⟨p1, p2⟩ := pow_int (p := n) (by omega)
    obtain ⟨M, hM⟩ : ∃ M : Nat, M = 2 ^ n - 1 := ⟨_, rfl⟩
    have hpw : 1 ≤ 2 ^ n := Nat.one_le_two_pow
    have hMi : (2 : Int) ^ n - 1 = (M : Int) := by rw [hM]; have e : (2 : Int) ^ n = ((2 ^ n : Nat) : Int) := by simp
                                                   rw [e]; omega
    rw [← hM] at HF hs8 hlen
    have hmf : ∀ (fn : Fn) (first cap : Array Value) (w : World), (Instr.makeFunc fn first cap).run Try.prog w = .ok (.func fn first cap) w := fun _ _ _ _ => rfl
    have HH := hide (rows_hands 3 M (by omega) hs8 (num_le hs8) w)
    clear hc h13 hM hpw
    go_enter Try.func26, Try.ntmps26
    go_wp2_with fail
    refine (collect_any (w0 := w) (xs := rdF 3 M) (fa := #[.int .i64 M]) (lb := #[]) (enters_of Try.func60 (by kernel_rfl) rfl) HH.out (Below.refl _ _) hlen).mono ?_
    rw [HF.out]
    rintro e w3 ⟨v, rfl, hA, hB⟩
    obtain ⟨A, c, rfl, l1, l2, hO⟩ := hA.ostr
    go_wp2
    go_ret
    exact ⟨A, c, rfl, hB, hO, l1, l2⟩
end Go.Proofs.Ytnennilpedediaa
