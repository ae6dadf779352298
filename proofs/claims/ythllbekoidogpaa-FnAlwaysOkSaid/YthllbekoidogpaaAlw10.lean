/-  -/
import Derived.Test.YthllbekoidogpaaAlw05
import Derived.Maps.AppendAt
import Derived.Deep.RegionHeld3
namespace Go.Proofs.Ythllbekoidogpaa
open Go.RowKit
set_option linter.unusedVariables false


/-- A slice does not lie in the blocks from lo on, below hi. -/
def OutOf (v : Value) (lo hi : Nat) : Prop := ∀ b, v.ownBlock = some b → b < lo ∨ hi ≤ b
theorem Srow.grown {w w' : World} {lo hi : Nat} {A : Option Addr} {L : List (List UInt8)} {v : Value} (h : Srow w lo hi A L) (hg : w.grownBy w' v.ownBlock) (ho : OutOf v lo hi) (hs : hi ≤ w.heap.size) : Srow w' lo hi A L :=
  h.keep fun k h1 h2 => hg.block k (by omega) (fun e => by have := ho k e.symm; omega)
theorem step_app_str_at {ops : Array Oper} {o : Oper} {a : Act} {K : Act → World → Prop} {Q : Exit → Act → World → Prop} {E : Prop} {w : World} (hgd : o.guard = none) (s x : Operand)
    (ho : o.op = .call { callee := .builtin .append, args := #[s, x], argTypes := #[69, 69] }) (base : Nat) (v : Value) (L : List (List UInt8)) (q : List UInt8) (hs : a.eval s = v) (hx : a.eval x = .slice (some ⟨w.heap.size, 0, none⟩) 1 1)
    (hown : AStr base w v L) (hn : L.length ≤ 1048576) (hb : base ≤ w.heap.size)
    (h : ∀ v' w', AStr base w' v' (L ++ [q]) → w.grownBy w' v.ownBlock → (v'.ownBlock = v.ownBlock ∨ v'.ownBlock = some (w.heap.size + 1)) → K (a.put o.dst v') w') :
    if Region.wanted o (yielded ops a.tmps) = true then Oper.wp Try.prog o a (w.alloc (.cells #[.string (bs q)] 9)) K Q else E := by
  have hw : Region.wanted o (yielded ops a.tmps) = true := by simp [Region.wanted, hgd]
  rw [if_pos hw]
  obtain ⟨i0, hi0, hz0, hz1, hz2⟩ := info_parts info_str
  obtain ⟨v', w', hr, h2, h3, _, h5⟩ := run_append_own_at (P := Try.prog) (w.alloc (.cells #[.string (bs q)] 9)) base 69 o.type 9 i0 (.string ⟨#[]⟩) 1 16 Try.underlying69 hi0 hz0 hz1 hz2 rfl (by decide) v _ _ (hown.alloc _) ⟨w.heap.size, 0, none⟩ 1 1 [.string (bs q)] rfl
    (World.news_of_block (cs := #[.string (bs q)]) (t := 9) (fr := (0, 0)) (heap_alloc_new _ _)) (by simp [Value.oneCell']) (by rw [maxLen_is]; omega) (by omega) (by simp; omega)
  have e : (w.alloc (.cells #[.string (bs q)] 9)).heap.size = w.heap.size + 1 := by simp
  rw [e] at h5
  unfold Oper.wp execOp
  simp only [ho, resolve, invoke, builtin, Sem.run_bind, Sem.run_pure, Result.andThen_ok, List.map_toArray, List.map_cons, List.map_nil, hs, hx, hr]
  exact h v' w' (by unfold AStr; simpa using h2) (grown_alloc _ h3) h5
theorem pow_int3 (i : Nat) : ((2 ^ (i + 1) : Nat) : Int) = 2 * ((2 ^ i : Nat) : Int) := by rw [Nat.pow_succ]; omega
theorem lx_slice {i : Nat} (hi : i < 3) (w : World) : (Instr.slice 9 (.string ⟨#[32, 97, 98, 32, 99]⟩) (some (.int .i64 ((2 ^ i : Nat) : Int))) (some (.int .i64 (((2 ^ i : Nat) : Int) + 1))) none).run Try.prog w = .ok (.string (bs [lx i])) w := by
  have h5 : 2 ^ i < [32, 97, 98, 32, 99].length := by
    obtain rfl | rfl | rfl : i = 0 ∨ i = 1 ∨ i = 2 := by omega
    all_goals simp
  have h := slice_one (u := [32, 97, 98, 32, 99]) Try.underlying9 ((2 ^ i : Nat) : Int) (((2 ^ i : Nat) : Int) + 1) (2 ^ i) rfl rfl h5 w
  have e : lt [32, 97, 98, 32, 99] (2 ^ i) = lx i := by
    obtain rfl | rfl | rfl : i = 0 ∨ i = 1 ∨ i = 2 := by omega
    all_goals rfl
  rw [e] at h
  exact h

set_option maxRecDepth 20000 in
set_option maxHeartbeats 16000000 in
theorem l8Full_any : ∀ (f : Nat), f < 4 → ∀ (s : Nat) (w : World), 1 ≤ s → s < 8 → pc s ≤ f →
    Calls Try.prog 89 #[.int .i64 s] w (NewStr w (fullF f s)) := by
  intro f
  induction f with
  | zero =>
    intro _ s w h1 h8 hp
    exfalso
    have : ∀ s : Fin 8, 1 ≤ (s : Nat) → pc s ≤ 0 → False := by decide
    exact this ⟨s, h8⟩ h1 hp
  | succ f ih =>
    intro hf s w h1 h8 hp
    have IH := hide (ih (by omega))
    have GS := hide (full_small f (by omega))
    clear ih
    by_cases hs1 : s = 1 ∨ s = 2 ∨ s = 4
    · rcases hs1 with rfl | rfl | rfl
      · have hsl : ∀ w, (Instr.slice 9 (.string ⟨#[32, 97, 98, 32, 99]⟩) (some (.int .i64 1)) (some (.int .i64 2)) none).run Try.prog w = .ok (.string (bs [97])) w := fun w => slice_one (u := [32, 97, 98, 32, 99]) Try.underlying9 1 2 1 rfl rfl (by simp) w
        have HF := hide (show fullF (f + 1) 1 = [[97]] from by simp [fullF])
        obtain ⟨SL, hSL⟩ : ∃ SL, SL = bs [97] := ⟨_, rfl⟩
        rw [← hSL] at hsl
        have HS := hide hSL
        clear hSL
        have bn := (Below.refl w.heap.size w).alloc (Nat.le_refl _) (.cells #[.string SL] 9)
        go_enter Try.func89, Try.ntmps89
        go_wp2
        go_ret
        rw [HF.out]
        refine ⟨_, 1, rfl, bn, fun j hj => ⟨w.heap.size, 0, rfl, Nat.le_refl _, by simp, ?_⟩, by simp, by omega⟩
        obtain rfl : j = 0 := by simpa using hj
        rw [HS.out]
        simp [sl]
      · have hsl : ∀ w, (Instr.slice 9 (.string ⟨#[32, 97, 98, 32, 99]⟩) (some (.int .i64 2)) (some (.int .i64 3)) none).run Try.prog w = .ok (.string (bs [98])) w := fun w => slice_one (u := [32, 97, 98, 32, 99]) Try.underlying9 2 3 2 rfl rfl (by simp) w
        have HF := hide (show fullF (f + 1) 2 = [[98]] from by simp [fullF])
        obtain ⟨SL, hSL⟩ : ∃ SL, SL = bs [98] := ⟨_, rfl⟩
        rw [← hSL] at hsl
        have HS := hide hSL
        clear hSL
        have bn := (Below.refl w.heap.size w).alloc (Nat.le_refl _) (.cells #[.string SL] 9)
        go_enter Try.func89, Try.ntmps89
        go_wp2
        go_ret
        rw [HF.out]
        refine ⟨_, 1, rfl, bn, fun j hj => ⟨w.heap.size, 0, rfl, Nat.le_refl _, by simp, ?_⟩, by simp, by omega⟩
        obtain rfl : j = 0 := by simpa using hj
        rw [HS.out]
        simp [sl]
      · have hsl : ∀ w, (Instr.slice 9 (.string ⟨#[32, 97, 98, 32, 99]⟩) (some (.int .i64 4)) (some (.int .i64 5)) none).run Try.prog w = .ok (.string (bs [99])) w := fun w => slice_one (u := [32, 97, 98, 32, 99]) Try.underlying9 4 5 4 rfl rfl (by simp) w
        have HF := hide (show fullF (f + 1) 4 = [[99]] from by simp [fullF])
        obtain ⟨SL, hSL⟩ : ∃ SL, SL = bs [99] := ⟨_, rfl⟩
        rw [← hSL] at hsl
        have HS := hide hSL
        clear hSL
        have bn := (Below.refl w.heap.size w).alloc (Nat.le_refl _) (.cells #[.string SL] 9)
        go_enter Try.func89, Try.ntmps89
        go_wp2
        go_ret
        rw [HF.out]
        refine ⟨_, 1, rfl, bn, fun j hj => ⟨w.heap.size, 0, rfl, Nat.le_refl _, by simp, ?_⟩, by simp, by omega⟩
        obtain rfl : j = 0 := by simpa using hj
        rw [HS.out]
        simp [sl]
    · have hn : s ≠ 1 ∧ s ≠ 2 ∧ s ≠ 4 := by omega
      have n1 : ¬ (s : Int) = 1 := by omega
      have n2 : ¬ (s : Int) = 2 := by omega
      have n4 : ¬ (s : Int) = 4 := by omega
      have b1 : ((s : Int) == 1) = false := beq_eq_false_iff_ne.2 n1
      have b2 : ((s : Int) == 2) = false := beq_eq_false_iff_ne.2 n2
      have b4 : ((s : Int) == 4) = false := beq_eq_false_iff_ne.2 n4
      have HF := hide (show fullF (f + 1) s = accX (fullF f) s 3 from by simp [fullF, hn.1, hn.2.1, hn.2.2])
      have PS := hide (fun i (hi : i < 3) (hb : s.testBit i = true) => pc_sub h8 hi hb hn)
      have HP := hide hp
      have GL := hide (fun x (hx : x < 8) => (GS.out x hx).1)
      obtain ⟨G, hG⟩ : ∃ G, G = fullF f := ⟨_, rfl⟩
      have IH2 := hide (fun (x : Nat) (w : World) (h1 : 1 ≤ x) (h8 : x < 8) (hp : pc x ≤ f) => (show Calls Try.prog 89 #[.int .i64 x] w (NewStr w (G x)) from by rw [hG]; exact IH.out x w h1 h8 hp))
      rw [← hG] at HF GL GS
      clear hG IH hn hp
      have bn := (Below.refl w.heap.size w).alloc (Nat.le_refl _) (.cells #[] 9)
      go_enter Try.func89, Try.ntmps89
      go_wp2
      go_loopg [4, 3] 3 (fun g x v wr => ∃ i : Nat, i ≤ 3 ∧ Hid (g = 3 - i) ∧ x = .int .i64 ((2 ^ i : Nat) : Int) ∧ AStr w.heap.size wr v (accX G s i) ∧ Below w.heap.size w wr)
      case atStart => exact ⟨0, by omega, rfl, rfl, AStr.made (Nat.le_refl _), bn⟩
      case round =>
        clear bn
        obtain ⟨i, hi, hgk, rfl, hA, hB⟩ := hrel
        have LX := len_accX GL.out h8 i
        by_cases hi3 : i < 3
        · have LXS := hide (fun w => lx_slice (w := w) hi3)
          have HAX := hide (and_bit (s := s) h8 hi3)
          have HNX := hide (pow_int3 i)
          have hx4 : ((2 ^ i : Nat) : Int) ≤ 4 ∧ 1 ≤ ((2 ^ i : Nat) : Int) := by
            obtain rfl | rfl | rfl : i = 0 ∨ i = 1 ∨ i = 2 := by omega
            all_goals simp
          obtain ⟨X, hX⟩ : ∃ X, X = 2 ^ i := ⟨_, rfl⟩
          rw [← hX] at LXS HAX HNX hx4 ⊢
          have HX := hide hX
          clear hX
          obtain ⟨x4, x1⟩ := hx4
          go_wp2
          go_loopg [5, 3] 3 (fun g y v wr => ∃ j : Nat, j ≤ 3 ∧ Hid (g = 3 - j) ∧ y = .int .i64 ((2 ^ j : Nat) : Int) ∧ AStr w.heap.size wr v (accX G s i ++ accY G s i j) ∧ Below w.heap.size w wr)
          case atStart => exact ⟨0, by omega, rfl, rfl, by simpa [accY] using hA, hB⟩
          case round =>
            clear hA hB
            obtain ⟨j, hj, hgk2, rfl, hA, hB⟩ := hrel
            have LY := len_accY GL.out h8 i j
            by_cases hj3 : j < 3
            · have LYS := hide (fun w => lx_slice (w := w) hj3)
              have HAY := hide (and_bit (s := s) h8 hj3)
              have HNY := hide (pow_int3 j)
              have hy4 : ((2 ^ j : Nat) : Int) ≤ 4 ∧ 1 ≤ ((2 ^ j : Nat) : Int) := by
                obtain rfl | rfl | rfl : j = 0 ∨ j = 1 ∨ j = 2 := by omega
                all_goals simp
              obtain ⟨Y, hY⟩ : ∃ Y, Y = 2 ^ j := ⟨_, rfl⟩
              rw [← hY] at LYS HAY HNY hy4 ⊢
              have HY := hide hY
              clear hY
              obtain ⟨y4, y1⟩ := hy4
              cases hbi : s.testBit i
              · have hax : bits .and .i64 (s : Int) (X : Int) = 0 := by rw [HAX.out, hbi]; rfl
                have HE := hide (show accY G s i (j + 1) = accY G s i j from by simp [accY, parW, hbi])
                go_wp2
                go_roundg (3 - (j + 1))
                case measure => go_light; have := hgk2.out; omega
                case rel => go_light; exact ⟨j + 1, by omega, rfl, congrArg (Value.int .i64) HNY.out.symm, by rw [HE.out]; exact hA, hB⟩
              · have hax : bits .and .i64 (s : Int) (X : Int) = (X : Int) := by rw [HAX.out, hbi]; rfl
                have hx0 : ((X : Int) == 0) = false := beq_eq_false_iff_ne.2 (by omega)
                cases hbj : s.testBit j
                · have hay : bits .and .i64 (s : Int) (Y : Int) = 0 := by rw [HAY.out, hbj]; rfl
                  have HE := hide (show accY G s i (j + 1) = accY G s i j from by simp [accY, parW, hbj])
                  go_wp2
                  go_roundg (3 - (j + 1))
                  case measure => go_light; have := hgk2.out; omega
                  case rel => go_light; exact ⟨j + 1, by omega, rfl, congrArg (Value.int .i64) HNY.out.symm, by rw [HE.out]; exact hA, hB⟩
                · have hay : bits .and .i64 (s : Int) (Y : Int) = (Y : Int) := by rw [HAY.out, hbj]; rfl
                  have hy0 : ((Y : Int) == 0) = false := beq_eq_false_iff_ne.2 (by omega)
                  obtain ⟨p1, p2, p3, p4⟩ := PS.out i hi3 hbi
                  obtain ⟨r1, r2, r3, r4⟩ := PS.out j hj3 hbj
                  have hpp := HP.out
                  have HE := hide (show accY G s i (j + 1) = accY G s i j ++ blkW (G (s - X)) (G (s - Y)) i j (G (s - X)).length from by simp [accY, parW, hbi, hbj, HX.out, HY.out])
                  rw [← HX.out] at p1 p2 p3 p4
                  rw [← HY.out] at r1 r2 r3 r4
                  have hsx : (s : Int) - (X : Int) = ((s - X : Nat) : Int) := by omega
                  have hsy : (s : Int) - (Y : Int) = ((s - Y : Nat) : Int) := by omega
                  obtain ⟨l1, w1⟩ := GS.out (s - X) p2
                  obtain ⟨l2, w2⟩ := GS.out (s - Y) r2
                  have C1 := hide (fun w => IH2.out (s - X) w p1 p2 (by omega))
                  have C2 := hide (fun w => IH2.out (s - Y) w r1 r2 (by omega))
                  obtain ⟨SX, hSX⟩ : ∃ SX, SX = s - X := ⟨_, rfl⟩
                  obtain ⟨SY, hSY⟩ : ∃ SY, SY = s - Y := ⟨_, rfl⟩
                  rw [← hSX] at hsx l1 w1 C1 HE
                  rw [← hSY] at hsy l2 w2 C2 HE
                  obtain ⟨H, hH⟩ : ∃ H, H = G SX := ⟨_, rfl⟩
                  obtain ⟨U, hU⟩ : ∃ U, U = G SY := ⟨_, rfl⟩
                  rw [← hH] at l1 w1 C1 HE
                  rw [← hU] at l2 w2 C2 HE
                  have W1 := hide w1
                  have W2 := hide w2
                  clear hSX hSY hH hU w1 w2 p1 p2 p3 p4 r1 r2 r3 r4 hpp
                  go_wp2_with fail
                  refine (C1.out _).mono ?_
                  rintro e w3 ⟨A1, c1, rfl, q3, o3, _, _⟩
                  go_wp2_with fail
                  refine (C2.out _).mono ?_
                  rintro e w4 ⟨A2, c2, rfl, q4, o4, _, _⟩
                  have z3 := q3.size
                  have z4 := q4.size
                  have zB := hB.size
                  have S1 := (o3.below q4 (Nat.le_refl _)).mono (Nat.le_refl _) z4
                  have S2 := o4.mono z3 (Nat.le_refl _)
                  have A4 := (hA.below q3).below q4
                  have B4 := (hB.trans (q3.mono zB)).trans (q4.mono (Nat.le_trans zB z3))
                  obtain ⟨lo, hlo⟩ : ∃ lo, lo = wr.heap.size := ⟨_, rfl⟩
                  obtain ⟨hi', hhi⟩ : ∃ hi', hi' = w4.heap.size := ⟨_, rfl⟩
                  have OV := hide (show OutOf _ lo hi' from fun b hb => .inl (by rw [hlo]; exact (hA.lt b hb).2))
                  rw [← hlo] at S1 S2 z3 zB
                  rw [← hhi] at S1 S2 z4
                  have Z4 := hide hhi
                  clear hlo hhi hA hB o3 o4 q3 q4
                  go_wp2
                  go_loopg [8, 3] H.length (fun g k v wr => ∃ p : Nat, p ≤ H.length ∧ Hid (g = H.length - p) ∧ k = .int .i64 p ∧ AStr w.heap.size wr v (accX G s i ++ accY G s i j ++ blkW H U i j p) ∧ Below w.heap.size w wr ∧ Hid (OutOf v lo hi') ∧ Srow wr lo hi' A1 H ∧ Srow wr lo hi' A2 U ∧ hi' ≤ wr.heap.size)
                  case atStart => exact ⟨0, Nat.zero_le _, rfl, rfl, by simpa [blkW] using A4, B4, OV, S1, S2, Nat.le_of_eq Z4.out⟩
                  case round =>
                    clear A4 B4 OV S1 S2
                    obtain ⟨p, hp, hgk3, rfl, hA, hB, hO, S1, S2, hz⟩ := hrel
                    have LB := len_blkW H U i j p
                    have LB2 : p * U.length ≤ 20736 := Nat.mul_le_mul (by omega : p ≤ 144) l2
                    by_cases hlt : p < H.length
                    · have HQ := hide (show blkW H U i j (p + 1) = blkW H U i j p ++ rowW (sl H p) i j U U.length from rfl)
                      have hhl := W1.out (sl H p) (by rw [sl_at hlt]; exact List.getElem_mem _)
                      obtain ⟨hw, hhw⟩ : ∃ hw, hw = sl H p := ⟨_, rfl⟩
                      rw [← hhw] at HQ hhl
                      have HW := hide hhw
                      clear hhw
                      go_wp2
                      go_loopg [9, 3] U.length (fun g k v wr => ∃ q : Nat, q ≤ U.length ∧ Hid (g = U.length - q) ∧ k = .int .i64 q ∧ AStr w.heap.size wr v (accX G s i ++ accY G s i j ++ blkW H U i j p ++ rowW hw i j U q) ∧ Below w.heap.size w wr ∧ Hid (OutOf v lo hi') ∧ Srow wr lo hi' A1 H ∧ Srow wr lo hi' A2 U ∧ hi' ≤ wr.heap.size)
                      case atStart => exact ⟨0, Nat.zero_le _, rfl, rfl, by simpa [rowW] using hA, hB, hO, S1, S2, hz⟩
                      case round =>
                        clear hA hB hO S1 S2 hz
                        obtain ⟨q, hq, hgk4, rfl, hA, hB, hO, S1, S2, hz⟩ := hrel
                        have LR := len_rowW hw i j U q
                        by_cases hqt : q < U.length
                        · have HR := hide (show rowW hw i j U (q + 1) = rowW hw i j U q ++ [hw ++ [lx i] ++ [lx j] ++ sl U q] from rfl)
                          have hul := W2.out (sl U q) (by rw [sl_at hqt]; exact List.getElem_mem _)
                          obtain ⟨bh, oh, e1, _, hbh, hch⟩ := S1 p hlt
                          obtain ⟨bu, ou, e2, _, hbu, hcu⟩ := S2 q hqt
                          rw [← HW.out] at hch
                          obtain ⟨uw, huw⟩ : ∃ uw, uw = sl U q := ⟨_, rfl⟩
                          rw [← huw] at HR hul hcu
                          clear huw
                          subst e1 e2
                          have wx : IntKind.i64.wrap ((X : Int) + 1) = (X : Int) + 1 := IntWalk.i64_in _ (by omega)
                          have wy : IntKind.i64.wrap ((Y : Int) + 1) = (Y : Int) + 1 := IntWalk.i64_in _ (by omega)
                          have hpi : (p : Int) < (H.length : Int) := by omega
                          have hqi : (q : Int) < (U.length : Int) := by omega
                          have hlx := fun w => LXS.out w
                          have hly := fun w => LYS.out w
                          obtain ⟨lx1, hlx1⟩ : ∃ lx1, lx1 = lx i := ⟨_, rfl⟩
                          obtain ⟨lx2, hlx2⟩ : ∃ lx2, lx2 = lx j := ⟨_, rfl⟩
                          rw [← hlx1] at hlx HR
                          rw [← hlx2] at hly HR
                          have a1 := fun w => add_bs (P := Try.prog) hw [lx1] (by simp; omega) w
                          have a2 := fun w => add_bs (P := Try.prog) (hw ++ [lx1]) [lx2] (by simp; omega) w
                          have a3 := fun w => add_bs (P := Try.prog) (hw ++ [lx1] ++ [lx2]) uw (by simp; omega) w
                          obtain ⟨v1, hv1⟩ : ∃ v1, v1 = hw ++ [lx1] := ⟨_, rfl⟩
                          rw [← hv1] at a1 a2 a3 HR
                          obtain ⟨v2, hv2⟩ : ∃ v2, v2 = v1 ++ [lx2] := ⟨_, rfl⟩
                          rw [← hv2] at a2 a3 HR
                          obtain ⟨v3, hv3⟩ : ∃ v3, v3 = v2 ++ uw := ⟨_, rfl⟩
                          rw [← hv3] at a3 HR
                          obtain ⟨SL1, hSL1⟩ : ∃ SL1, SL1 = bs [lx1] := ⟨_, rfl⟩
                          rw [← hSL1] at hlx a1
                          obtain ⟨SL2, hSL2⟩ : ∃ SL2, SL2 = bs [lx2] := ⟨_, rfl⟩
                          rw [← hSL2] at hly a2
                          have HLN := hide (show (accX G s i ++ accY G s i j ++ blkW H U i j p ++ rowW hw i j U q).length ≤ 1048576 from by simp only [List.length_append]; omega)
                          obtain ⟨LL, hLL⟩ : ∃ LL, LL = accX G s i ++ accY G s i j ++ blkW H U i j p ++ rowW hw i j U q := ⟨_, rfl⟩
                          rw [← hLL] at hA HLN
                          have HLL := hide hLL
                          have hmx : Try.prog.follows .mixedOrders = true := by kernel_rfl
                          have hchd : wr.drew.cell? ⟨bh, oh + p, none⟩ = some (.string (bs hw)) := hch
                          have hcud : wr.drew.cell? ⟨bu, ou + q, none⟩ = some (.string (bs uw)) := hcu
                          have hAd : AStr w.heap.size wr.drew _ LL := hA
                          have hBs : w.heap.size ≤ wr.drew.heap.size := hB.size
                          have hFin : Hid (∀ (v' : Value) (w' : World), AStr w.heap.size w' v' (LL ++ [v3]) → wr.drew.grownBy w' (Value.ownBlock _) → (Value.ownBlock v' = Value.ownBlock _ ∨ Value.ownBlock v' = some (wr.drew.heap.size + 1)) →
                              AStr w.heap.size w' v' (accX G s i ++ accY G s i j ++ blkW H U i j p ++ rowW hw i j U (q + 1)) ∧ Below w.heap.size w w' ∧ OutOf v' lo hi' ∧ Srow w' lo hi' (some ⟨bh, oh, none⟩) H ∧ Srow w' lo hi' (some ⟨bu, ou, none⟩) U ∧ hi' ≤ w'.heap.size) := fun v' w' k1 k2 k3 => by
                            refine ⟨?_, ?_, ?_, ?_, ?_, ?_⟩
                            · rw [HR.out, ← List.append_assoc, ← HLL.out]; exact k1
                            · exact hB.trans ((below_drewN (B := w.heap.size) (w := wr) 1).trans (hAd.belowOf k2 (Nat.le_refl _) hBs))
                            · intro b hb
                              rcases k3 with k3 | k3
                              · exact hO.out b (k3 ▸ hb)
                              · rw [k3] at hb
                                have : wr.drew.heap.size + 1 = b := by simpa using hb
                                have hz' : hi' ≤ wr.drew.heap.size := hz
                                right; omega
                            · exact (show Srow wr.drew lo hi' _ H from S1).grown k2 hO.out hz
                            · exact (show Srow wr.drew lo hi' _ U from S2).grown k2 hO.out hz
                            · exact Nat.le_trans hz k2.size
                          clear hLL hv1 hv2 hv3 hlx1 hlx2 hSL1 hSL2 hch hcu S1 S2 hA HR
                          go_wp2
                          refine wp_region_noPanic ?_
                          refine wp_region_any hmx ?_
                          change wpAny _ _ _ _ _ _ _ (World.drew _)
                          refine wpAny_take (i := 0) (v := ?_) (by simp only [List.getElem?_toArray, List.getElem?_cons_zero]; rfl) (by kernel_rfl) (by kernel_rfl) (by kernel_rfl) (fun _ _ _ h => h) (Or.inl ⟨by rfl, ?_⟩) ?_
                          rotate_left
                          · intro w_
                            first
                              | (go_simp; done)
                              | (go_simp; with_reducible rfl)
                          try simp only [Act.put, List.setIfInBounds_toArray, List.set_cons_zero, List.set_cons_succ]
                          refine wpAny_take (i := 1) (v := ?_) (by simp only [List.getElem?_toArray, List.getElem?_cons_succ, List.getElem?_cons_zero]; rfl) (by kernel_rfl) (by kernel_rfl) (by kernel_rfl) (fun _ _ _ h => h) (Or.inl ⟨by rfl, ?_⟩) ?_
                          rotate_left
                          · intro w_
                            first
                              | (go_simp; done)
                              | (go_simp; with_reducible rfl)
                          try simp only [Act.put, List.setIfInBounds_toArray, List.set_cons_zero, List.set_cons_succ]
                          refine wpAny_take (i := 2) (v := ?_) (by simp only [List.getElem?_toArray, List.getElem?_cons_succ, List.getElem?_cons_zero]; rfl) (by kernel_rfl) (by kernel_rfl) (by kernel_rfl) (fun _ _ _ h => h) (Or.inl ⟨by rfl, ?_⟩) ?_
                          rotate_left
                          · intro w_
                            first
                              | (go_simp; done)
                              | (go_simp; with_reducible rfl)
                          try simp only [Act.put, List.setIfInBounds_toArray, List.set_cons_zero, List.set_cons_succ]
                          refine wpAny_take (i := 3) (v := ?_) (by simp only [List.getElem?_toArray, List.getElem?_cons_succ, List.getElem?_cons_zero]; rfl) (by kernel_rfl) (by kernel_rfl) (by kernel_rfl) (fun _ _ _ h => h) (Or.inl ⟨by rfl, ?_⟩) ?_
                          rotate_left
                          · intro w_
                            first
                              | (go_simp; done)
                              | (go_simp; with_reducible rfl)
                          try simp only [Act.put, List.setIfInBounds_toArray, List.set_cons_zero, List.set_cons_succ]
                          refine wpAny_take (i := 5) (v := ?_) (by simp only [List.getElem?_toArray, List.getElem?_cons_succ, List.getElem?_cons_zero]; rfl) (by kernel_rfl) (by kernel_rfl) (by kernel_rfl) (fun _ _ _ h => h) (Or.inl ⟨by rfl, ?_⟩) ?_
                          rotate_left
                          · intro w_
                            first
                              | (go_simp; done)
                              | (go_simp; with_reducible rfl)
                          try simp only [Act.put, List.setIfInBounds_toArray, List.set_cons_zero, List.set_cons_succ]
                          refine wpAny_take (i := 6) (v := ?_) (by simp only [List.getElem?_toArray, List.getElem?_cons_succ, List.getElem?_cons_zero]; rfl) (by kernel_rfl) (by kernel_rfl) (by kernel_rfl) (fun _ _ _ h => h) (Or.inl ⟨by rfl, ?_⟩) ?_
                          rotate_left
                          · intro w_
                            first
                              | (go_simp; done)
                              | (go_simp; with_reducible rfl)
                          try simp only [Act.put, List.setIfInBounds_toArray, List.set_cons_zero, List.set_cons_succ]
                          refine wpAny_take (i := 7) (v := ?_) (by simp only [List.getElem?_toArray, List.getElem?_cons_succ, List.getElem?_cons_zero]; rfl) (by kernel_rfl) (by kernel_rfl) (by kernel_rfl) (fun _ _ _ h => h) (Or.inl ⟨by rfl, ?_⟩) ?_
                          rotate_left
                          · intro w_
                            first
                              | (go_simp; done)
                              | (go_simp; with_reducible rfl)
                          try simp only [Act.put, List.setIfInBounds_toArray, List.set_cons_zero, List.set_cons_succ]
                          refine wpAny_take (i := 8) (v := ?_) (by simp only [List.getElem?_toArray, List.getElem?_cons_succ, List.getElem?_cons_zero]; rfl) (by kernel_rfl) (by kernel_rfl) (by kernel_rfl) (fun _ _ _ h => h) (Or.inl ⟨by rfl, ?_⟩) ?_
                          rotate_left
                          · intro w_
                            first
                              | (go_simp; done)
                              | (go_simp; with_reducible rfl)
                          try simp only [Act.put, List.setIfInBounds_toArray, List.set_cons_zero, List.set_cons_succ]
                          refine wpAny_take (i := 10) (v := ?_) (by simp only [List.getElem?_toArray, List.getElem?_cons_succ, List.getElem?_cons_zero]; rfl) (by kernel_rfl) (by kernel_rfl) (by kernel_rfl) (fun _ _ _ h => h) (Or.inl ⟨by rfl, ?_⟩) ?_
                          rotate_left
                          · intro w_
                            first
                              | (go_simp; done)
                              | (go_simp; with_reducible rfl)
                          try simp only [Act.put, List.setIfInBounds_toArray, List.set_cons_zero, List.set_cons_succ]
                          refine wpAny_take (i := 11) (v := ?_) (by simp only [List.getElem?_toArray, List.getElem?_cons_succ, List.getElem?_cons_zero]; rfl) (by kernel_rfl) (by kernel_rfl) (by kernel_rfl) (fun _ _ _ h => h) (Or.inl ⟨by rfl, ?_⟩) ?_
                          rotate_left
                          · intro w_
                            first
                              | (go_simp; done)
                              | (go_simp; with_reducible rfl)
                          try simp only [Act.put, List.setIfInBounds_toArray, List.set_cons_zero, List.set_cons_succ]
                          refine wpAny_take (i := 12) (v := ?_) (by simp only [List.getElem?_toArray, List.getElem?_cons_succ, List.getElem?_cons_zero]; rfl) (by kernel_rfl) (by kernel_rfl) (by kernel_rfl) (fun _ _ _ h => h) (Or.inl ⟨by rfl, ?_⟩) ?_
                          rotate_left
                          · intro w_
                            first
                              | (go_simp; done)
                              | (go_simp; with_reducible rfl)
                          try simp only [Act.put, List.setIfInBounds_toArray, List.set_cons_zero, List.set_cons_succ]
                          refine wpAny_take (i := 13) (v := ?_) (by simp only [List.getElem?_toArray, List.getElem?_cons_succ, List.getElem?_cons_zero]; rfl) (by kernel_rfl) (by kernel_rfl) (by kernel_rfl) (fun _ _ _ h => h) (Or.inl ⟨by rfl, ?_⟩) ?_
                          rotate_left
                          · intro w_
                            first
                              | (go_simp; done)
                              | (go_simp; with_reducible rfl)
                          try simp only [Act.put, List.setIfInBounds_toArray, List.set_cons_zero, List.set_cons_succ]
                          refine wpAny_take (i := 15) (v := ?_) (by simp only [List.getElem?_toArray, List.getElem?_cons_succ, List.getElem?_cons_zero]; rfl) (by kernel_rfl) (by kernel_rfl) (by kernel_rfl) (fun _ _ _ h => h) (Or.inl ⟨by rfl, ?_⟩) ?_
                          rotate_left
                          · intro w_
                            first
                              | (go_simp; done)
                              | (go_simp; with_reducible rfl)
                          try simp only [Act.put, List.setIfInBounds_toArray, List.set_cons_zero, List.set_cons_succ]
                          refine wpAny_take (i := 16) (v := ?_) (by simp only [List.getElem?_toArray, List.getElem?_cons_succ, List.getElem?_cons_zero]; rfl) (by kernel_rfl) (by kernel_rfl) (by kernel_rfl) (fun _ _ _ h => h) (Or.inl ⟨by rfl, ?_⟩) ?_
                          rotate_left
                          · intro w_
                            first
                              | (go_simp; done)
                              | (go_simp; with_reducible rfl)
                          try simp only [Act.put, List.setIfInBounds_toArray, List.set_cons_zero, List.set_cons_succ]
                          refine wpAny_take (i := 17) (v := ?_) (by simp only [List.getElem?_toArray, List.getElem?_cons_succ, List.getElem?_cons_zero]; rfl) (by kernel_rfl) (by kernel_rfl) (by kernel_rfl) (fun _ _ _ h => h) (Or.inl ⟨by rfl, ?_⟩) ?_
                          rotate_left
                          · intro w_
                            first
                              | (go_simp; done)
                              | (go_simp; with_reducible rfl)
                          try simp only [Act.put, List.setIfInBounds_toArray, List.set_cons_zero, List.set_cons_succ]
                          refine wpAny_ready (rs := [4, 18]) (by kernel_rfl) (by simp) ?_
                          refine AllReady.cons (by simp only [List.getElem?_toArray, List.getElem?_cons_succ, List.getElem?_cons_zero]; rfl) (fun K hK => ?_) ?_
                          · go_simp
                            refine hK _ _ ?_
                            clear hK K
                            try simp only [Act.put, List.setIfInBounds_toArray, List.set_cons_zero, List.set_cons_succ]
                            refine wpAny_take (i := 9) (v := ?_) (by simp only [List.getElem?_toArray, List.getElem?_cons_succ, List.getElem?_cons_zero]; rfl) (by kernel_rfl) (by kernel_rfl) (by kernel_rfl) (fun _ _ _ h => h) (Or.inl ⟨by rfl, ?_⟩) ?_
                            rotate_left
                            · intro w_
                              first
                                | (go_simp; done)
                                | (go_simp; with_reducible rfl)
                            try simp only [Act.put, List.setIfInBounds_toArray, List.set_cons_zero, List.set_cons_succ]
                            refine wpAny_take (i := 14) (v := ?_) (by simp only [List.getElem?_toArray, List.getElem?_cons_succ, List.getElem?_cons_zero]; rfl) (by kernel_rfl) (by kernel_rfl) (by kernel_rfl) (fun _ _ _ h => h) (Or.inl ⟨by rfl, ?_⟩) ?_
                            rotate_left
                            · intro w_
                              first
                                | (go_simp; done)
                                | (go_simp; with_reducible rfl)
                            try simp only [Act.put, List.setIfInBounds_toArray, List.set_cons_zero, List.set_cons_succ]
                            refine wpAny_ready (rs := [18]) (by kernel_rfl) (by simp) ?_
                            refine AllReady.cons (by simp only [List.getElem?_toArray, List.getElem?_cons_succ, List.getElem?_cons_zero]; rfl) (fun K hK => ?_) AllReady.nil
                            go_simp
                            refine hK _ _ ?_
                            clear hK K
                            try simp only [Act.put, List.setIfInBounds_toArray, List.set_cons_zero, List.set_cons_succ]
                            refine wpAny_take (i := 19) (v := ?_) (by simp only [List.getElem?_toArray, List.getElem?_cons_succ, List.getElem?_cons_zero]; rfl) (by kernel_rfl) (by kernel_rfl) (by kernel_rfl) (fun _ _ _ h => h) (Or.inl ⟨by rfl, ?_⟩) ?_
                            rotate_left
                            · intro w_
                              first
                                | (go_simp; done)
                                | (go_simp; with_reducible rfl)
                            try simp only [Act.put, List.setIfInBounds_toArray, List.set_cons_zero, List.set_cons_succ]
                            refine wpAny_ready (rs := [20]) (by kernel_rfl) (by simp) ?_
                            refine AllReady.cons (by simp only [List.getElem?_toArray, List.getElem?_cons_succ, List.getElem?_cons_zero]; rfl) (fun K hK => ?_) AllReady.nil
                            go_simp
                            refine hK _ _ ?_
                            clear hK K
                            try simp only [Act.put, List.setIfInBounds_toArray, List.set_cons_zero, List.set_cons_succ]
                            refine wpAny_ready (rs := [21]) (by kernel_rfl) (by simp) ?_
                            refine AllReady.cons (by simp only [List.getElem?_toArray, List.getElem?_cons_succ, List.getElem?_cons_zero]; rfl) (fun K hK => ?_) AllReady.nil
                            refine step_app_str_at rfl (.tmp 64) (.tmp 84) rfl w.heap.size _ LL v3 rfl rfl hAd HLN.out hBs ?_
                            intro v9 w9 g1 g2 g3
                            obtain ⟨k1, k2, k3, k4, k5, k6⟩ := hFin.out v9 w9 g1 g2 g3
                            refine hK _ _ ?_
                            clear hK K
                            try simp only [Act.put, List.setIfInBounds_toArray, List.set_cons_zero, List.set_cons_succ]
                            refine wpAny_take (i := 22) (v := ?_) (by simp only [List.getElem?_toArray, List.getElem?_cons_succ, List.getElem?_cons_zero]; rfl) (by kernel_rfl) (by kernel_rfl) (by kernel_rfl) (fun _ _ _ h => h) (Or.inl ⟨by rfl, ?_⟩) ?_
                            rotate_left
                            · intro w_
                              first
                                | (go_simp; done)
                                | (go_simp; with_reducible rfl)
                            try simp only [Act.put, List.setIfInBounds_toArray, List.set_cons_zero, List.set_cons_succ]
                            refine wpAny_done (by kernel_rfl) (NoPanic.normal ?_) _
                            go_wp2
                            go_roundg (U.length - (q + 1))
                            case measure => go_light; have := hgk4.out; omega
                            case rel => go_light; exact ⟨q + 1, by omega, rfl, by go_num, k1, k2, k3, k4, k5, k6⟩
                          · refine AllReady.cons (by simp only [List.getElem?_toArray, List.getElem?_cons_succ, List.getElem?_cons_zero]; rfl) (fun K hK => ?_) AllReady.nil
                            go_simp
                            refine hK _ _ ?_
                            clear hK K
                            try simp only [Act.put, List.setIfInBounds_toArray, List.set_cons_zero, List.set_cons_succ]
                            refine wpAny_ready (rs := [4]) (by kernel_rfl) (by simp) ?_
                            refine AllReady.cons (by simp only [List.getElem?_toArray, List.getElem?_cons_succ, List.getElem?_cons_zero]; rfl) (fun K hK => ?_) AllReady.nil
                            go_simp
                            refine hK _ _ ?_
                            clear hK K
                            try simp only [Act.put, List.setIfInBounds_toArray, List.set_cons_zero, List.set_cons_succ]
                            refine wpAny_take (i := 9) (v := ?_) (by simp only [List.getElem?_toArray, List.getElem?_cons_succ, List.getElem?_cons_zero]; rfl) (by kernel_rfl) (by kernel_rfl) (by kernel_rfl) (fun _ _ _ h => h) (Or.inl ⟨by rfl, ?_⟩) ?_
                            rotate_left
                            · intro w_
                              first
                                | (go_simp; done)
                                | (go_simp; with_reducible rfl)
                            try simp only [Act.put, List.setIfInBounds_toArray, List.set_cons_zero, List.set_cons_succ]
                            refine wpAny_take (i := 14) (v := ?_) (by simp only [List.getElem?_toArray, List.getElem?_cons_succ, List.getElem?_cons_zero]; rfl) (by kernel_rfl) (by kernel_rfl) (by kernel_rfl) (fun _ _ _ h => h) (Or.inl ⟨by rfl, ?_⟩) ?_
                            rotate_left
                            · intro w_
                              first
                                | (go_simp; done)
                                | (go_simp; with_reducible rfl)
                            try simp only [Act.put, List.setIfInBounds_toArray, List.set_cons_zero, List.set_cons_succ]
                            refine wpAny_take (i := 19) (v := ?_) (by simp only [List.getElem?_toArray, List.getElem?_cons_succ, List.getElem?_cons_zero]; rfl) (by kernel_rfl) (by kernel_rfl) (by kernel_rfl) (fun _ _ _ h => h) (Or.inl ⟨by rfl, ?_⟩) ?_
                            rotate_left
                            · intro w_
                              first
                                | (go_simp; done)
                                | (go_simp; with_reducible rfl)
                            try simp only [Act.put, List.setIfInBounds_toArray, List.set_cons_zero, List.set_cons_succ]
                            refine wpAny_ready (rs := [20]) (by kernel_rfl) (by simp) ?_
                            refine AllReady.cons (by simp only [List.getElem?_toArray, List.getElem?_cons_succ, List.getElem?_cons_zero]; rfl) (fun K hK => ?_) AllReady.nil
                            go_simp
                            refine hK _ _ ?_
                            clear hK K
                            try simp only [Act.put, List.setIfInBounds_toArray, List.set_cons_zero, List.set_cons_succ]
                            refine wpAny_ready (rs := [21]) (by kernel_rfl) (by simp) ?_
                            refine AllReady.cons (by simp only [List.getElem?_toArray, List.getElem?_cons_succ, List.getElem?_cons_zero]; rfl) (fun K hK => ?_) AllReady.nil
                            refine step_app_str_at rfl (.tmp 64) (.tmp 84) rfl w.heap.size _ LL v3 rfl rfl hAd HLN.out hBs ?_
                            intro v9 w9 g1 g2 g3
                            obtain ⟨k1, k2, k3, k4, k5, k6⟩ := hFin.out v9 w9 g1 g2 g3
                            refine hK _ _ ?_
                            clear hK K
                            try simp only [Act.put, List.setIfInBounds_toArray, List.set_cons_zero, List.set_cons_succ]
                            refine wpAny_take (i := 22) (v := ?_) (by simp only [List.getElem?_toArray, List.getElem?_cons_succ, List.getElem?_cons_zero]; rfl) (by kernel_rfl) (by kernel_rfl) (by kernel_rfl) (fun _ _ _ h => h) (Or.inl ⟨by rfl, ?_⟩) ?_
                            rotate_left
                            · intro w_
                              first
                                | (go_simp; done)
                                | (go_simp; with_reducible rfl)
                            try simp only [Act.put, List.setIfInBounds_toArray, List.set_cons_zero, List.set_cons_succ]
                            refine wpAny_done (by kernel_rfl) (NoPanic.normal ?_) _
                            go_wp2
                            go_roundg (U.length - (q + 1))
                            case measure => go_light; have := hgk4.out; omega
                            case rel => go_light; exact ⟨q + 1, by omega, rfl, by go_num, k1, k2, k3, k4, k5, k6⟩
                        · obtain rfl : q = U.length := by omega
                          go_wp2
                          go_roundg (H.length - (p + 1))
                          case measure => go_light; have := hgk3.out; omega
                          case rel => go_light; exact ⟨p + 1, by omega, rfl, by go_num, by rw [HQ.out, ← List.append_assoc]; exact hA, hB, hO, S1, S2, hz⟩
                    · obtain rfl : p = H.length := by omega
                      go_wp2
                      go_roundg (3 - (j + 1))
                      case measure => go_light; have := hgk2.out; omega
                      case rel => go_light; exact ⟨j + 1, by omega, rfl, congrArg (Value.int .i64) HNY.out.symm, by rw [HE.out, ← List.append_assoc]; exact hA, hB⟩
            · obtain rfl : j = 3 := by omega
              go_wp2
              go_roundg (3 - (i + 1))
              case measure => go_light; have := hgk.out; omega
              case rel => go_light; exact ⟨i + 1, by omega, rfl, congrArg (Value.int .i64) HNX.out.symm, hA, hB⟩
        · obtain rfl : i = 3 := by omega
          obtain ⟨A9, c9, rfl, d1, d2, hR⟩ := hA.val
          go_wp2
          go_ret
          rw [HF.out]
          exact ⟨A9, c9, rfl, hB, hR, d1, d2⟩
end Go.Proofs.Ythllbekoidogpaa
