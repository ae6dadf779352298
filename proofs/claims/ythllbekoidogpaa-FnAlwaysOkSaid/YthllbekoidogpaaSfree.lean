/-  -/
import Derived.Test.YthllbekoidogpaaFreeP
import Derived.Maps.AppendAt
import Derived.Deep.RegionHeld3
import Derived.Test.YthllbekoidogpaaMark
import Derived.BigQuiet
import Derived.Test.YthllbekoidogpaaSsame
import Derived.Test.YthllbekoidogpaaPartS
import Derived.Test.YthllbekoidogpaaPureX
namespace Go.Proofs.Ythllbekoidogpaa
open Go.RowKit
set_option linter.unusedVariables false


/-- A slice does not lie in the blocks from lo on, below hi. -/
def OutOf (v : Value) (lo hi : Nat) : Prop := ∀ b, v.ownBlock = some b → b < lo ∨ hi ≤ b
theorem Srow.grown {w w' : World} {lo hi : Nat} {A : Option Addr} {L : List (List UInt8)} {v : Value} (h : Srow w lo hi A L) (hg : w.grownBy w' v.ownBlock) (ho : OutOf v lo hi) (hs : hi ≤ w.heap.size) : Srow w' lo hi A L :=
  h.keep fun k h1 h2 => hg.block k (by omega) (fun e => by have := ho k e.symm; omega)
theorem step_app_str_at {ops : Array Oper} {o : Oper} {a : Act} {K : Act → World → Prop} {Q : Exit → Act → World → Prop} {E : Prop} {w : World} (hgd : o.guard = none) (s x : Operand)
    (ho : o.op = .call { callee := .builtin .append, args := #[s, x], argTypes := #[69, 69] }) (base : Nat) (v : Value) (L : List (List UInt8)) (q : List UInt8) (hs : a.eval s = v) (hx : a.eval x = .slice (some ⟨w.heap.size, 0, none⟩) 1 1)
    (hown : AStr base w v L) (hn : L.length ≤ 1048576) (hb : base ≤ w.heap.size)
    (h : ∀ v' w', AStr base w' v' (L ++ [q]) → w.grownBy w' v.ownBlock → (v'.ownBlock = v.ownBlock ∨ v'.ownBlock = some (w.heap.size + 1)) → K (a.put o.dst v') w') :
    if Region.wanted o (yielded ops a.tmps) = true then Oper.wp Try.prog o a (w.alloc (.cells #[.string (bs q)] 9)) K Q else E := by
  have hw : Region.wanted o (yielded ops a.tmps) = true := by simp [Region.wanted, hgd]
  rw [if_pos hw]
  obtain ⟨i0, hi0, hz0, hz1, hz2⟩ := info_parts info_str
  obtain ⟨v', w', hr, h2, h3, _, h5⟩ := run_append_own_at (P := Try.prog) (w.alloc (.cells #[.string (bs q)] 9)) base 69 o.type 9 i0 (.string ⟨#[]⟩) 1 16 Try.underlying69 hi0 hz0 hz1 hz2 rfl (by decide) v _ _ (hown.alloc _) ⟨w.heap.size, 0, none⟩ 1 1 [.string (bs q)] rfl
    (World.news_of_block (cs := #[.string (bs q)]) (t := 9) (fr := (0, 0)) (heap_alloc_new _ _)) (by simp [Value.oneCell']) (by rw [maxLen_is]; omega) (by omega) (by simp; omega)
  have e : (w.alloc (.cells #[.string (bs q)] 9)).heap.size = w.heap.size + 1 := by simp
  rw [e] at h5
  unfold Oper.wp execOp
  simp only [ho, resolve, invoke, builtin, Sem.run_bind, Sem.run_pure, Result.andThen_ok, List.map_toArray, List.map_cons, List.map_nil, hs, hx, hr]
  exact h v' w' (by unfold AStr; simpa using h2) (grown_alloc _ h3) h5
theorem pow_int3 (i : Nat) : ((2 ^ (i + 1) : Nat) : Int) = 2 * ((2 ^ i : Nat) : Int) := by rw [Nat.pow_succ]; omega
theorem lx_slice {i : Nat} (hi : i < 3) (w : World) : (Instr.slice 9 (.string ⟨#[32, 97, 98, 32, 99]⟩) (some (.int .i64 ((2 ^ i : Nat) : Int))) (some (.int .i64 (((2 ^ i : Nat) : Int) + 1))) none).run Try.prog w = .ok (.string (bs [lx i])) w := by
  have h5 : 2 ^ i < [32, 97, 98, 32, 99].length := by
    obtain rfl | rfl | rfl : i = 0 ∨ i = 1 ∨ i = 2 := by omega
    all_goals simp
  have h := slice_one (u := [32, 97, 98, 32, 99]) Try.underlying9 ((2 ^ i : Nat) : Int) (((2 ^ i : Nat) : Int) + 1) (2 ^ i) rfl rfl h5 w
  have e : lt [32, 97, 98, 32, 99] (2 ^ i) = lx i := by
    obtain rfl | rfl | rfl : i = 0 ∨ i = 1 ∨ i = 2 := by omega
    all_goals rfl
  rw [e] at h
  exact h

set_option maxRecDepth 20000 in
set_option maxHeartbeats 16000000 in
theorem l8Full_any : ∀ (f : Nat), f < 4 → ∀ (s : Nat) (w : World), 1 ≤ s → s < 8 → pc s ≤ f →
    Calls Try.prog 89 #[.int .i64 s] w (NewStr w (fullF f s)) := by
  intro f
  induction f with
  | zero =>
    intro _ s w h1 h8 hp
    exfalso
    have : ∀ s : Fin 8, 1 ≤ (s : Nat) → pc s ≤ 0 → False := by decide
    exact this ⟨s, h8⟩ h1 hp
  | succ f ih =>
    intro hf s w h1 h8 hp
    have IH := hide (ih (by omega))
    have GS := hide (full_small f (by omega))
    clear ih
    by_cases hs1 : s = 1 ∨ s = 2 ∨ s = 4
    · rcases hs1 with rfl | rfl | rfl
      · have hsl : ∀ w, (Instr.slice 9 (.string ⟨#[32, 97, 98, 32, 99]⟩) (some (.int .i64 1)) (some (.int .i64 2)) none).run Try.prog w = .ok (.string (bs [97])) w := fun w => slice_one (u := [32, 97, 98, 32, 99]) Try.underlying9 1 2 1 rfl rfl (by simp) w
        have HF := hide (show fullF (f + 1) 1 = [[97]] from by simp [fullF])
        obtain ⟨SL, hSL⟩ : ∃ SL, SL = bs [97] := ⟨_, rfl⟩
        rw [← hSL] at hsl
        have HS := hide hSL
        clear hSL
        have bn := (Below.refl w.heap.size w).alloc (Nat.le_refl _) (.cells #[.string SL] 9)
        go_enter Try.func89, Try.ntmps89
        go_wp2
        go_ret
        rw [HF.out]
        refine ⟨_, 1, rfl, bn, fun j hj => ⟨w.heap.size, 0, rfl, Nat.le_refl _, by simp, ?_⟩, by simp, by omega⟩
        obtain rfl : j = 0 := by simpa using hj
        rw [HS.out]
        simp [sl]
      · have hsl : ∀ w, (Instr.slice 9 (.string ⟨#[32, 97, 98, 32, 99]⟩) (some (.int .i64 2)) (some (.int .i64 3)) none).run Try.prog w = .ok (.string (bs [98])) w := fun w => slice_one (u := [32, 97, 98, 32, 99]) Try.underlying9 2 3 2 rfl rfl (by simp) w
        have HF := hide (show fullF (f + 1) 2 = [[98]] from by simp [fullF])
        obtain ⟨SL, hSL⟩ : ∃ SL, SL = bs [98] := ⟨_, rfl⟩
        rw [← hSL] at hsl
        have HS := hide hSL
        clear hSL
        have bn := (Below.refl w.heap.size w).alloc (Nat.le_refl _) (.cells #[.string SL] 9)
        go_enter Try.func89, Try.ntmps89
        go_wp2
        go_ret
        rw [HF.out]
        refine ⟨_, 1, rfl, bn, fun j hj => ⟨w.heap.size, 0, rfl, Nat.le_refl _, by simp, ?_⟩, by simp, by omega⟩
        obtain rfl : j = 0 := by simpa using hj
        rw [HS.out]
        simp [sl]
      · have hsl : ∀ w, (Instr.slice 9 (.string ⟨#[32, 97, 98, 32, 99]⟩) (some (.int .i64 4)) (some (.int .i64 5)) none).run Try.prog w = .ok (.string (bs [99])) w := fun w => slice_one (u := [32, 97, 98, 32, 99]) Try.underlying9 4 5 4 rfl rfl (by simp) w
        have HF := hide (show fullF (f + 1) 4 = [[99]] from by simp [fullF])
        obtain ⟨SL, hSL⟩ : ∃ SL, SL = bs [99] := ⟨_, rfl⟩
        rw [← hSL] at hsl
        have HS := hide hSL
        clear hSL
        have bn := (Below.refl w.heap.size w).alloc (Nat.le_refl _) (.cells #[.string SL] 9)
        go_enter Try.func89, Try.ntmps89
        go_wp2
        go_ret
        rw [HF.out]
        refine ⟨_, 1, rfl, bn, fun j hj => ⟨w.heap.size, 0, rfl, Nat.le_refl _, by simp, ?_⟩, by simp, by omega⟩
        obtain rfl : j = 0 := by simpa using hj
        rw [HS.out]
        simp [sl]
    · have hn : s ≠ 1 ∧ s ≠ 2 ∧ s ≠ 4 := by omega
      have n1 : ¬ (s : Int) = 1 := by omega
      have n2 : ¬ (s : Int) = 2 := by omega
      have n4 : ¬ (s : Int) = 4 := by omega
      have b1 : ((s : Int) == 1) = false := beq_eq_false_iff_ne.2 n1
      have b2 : ((s : Int) == 2) = false := beq_eq_false_iff_ne.2 n2
      have b4 : ((s : Int) == 4) = false := beq_eq_false_iff_ne.2 n4
      have HF := hide (show fullF (f + 1) s = accX (fullF f) s 3 from by simp [fullF, hn.1, hn.2.1, hn.2.2])
      have PS := hide (fun i (hi : i < 3) (hb : s.testBit i = true) => pc_sub h8 hi hb hn)
      have HP := hide hp
      have GL := hide (fun x (hx : x < 8) => (GS.out x hx).1)
      obtain ⟨G, hG⟩ : ∃ G, G = fullF f := ⟨_, rfl⟩
      have IH2 := hide (fun (x : Nat) (w : World) (h1 : 1 ≤ x) (h8 : x < 8) (hp : pc x ≤ f) => (show Calls Try.prog 89 #[.int .i64 x] w (NewStr w (G x)) from by rw [hG]; exact IH.out x w h1 h8 hp))
      rw [← hG] at HF GL GS
      clear hG IH hn hp
      have bn := (Below.refl w.heap.size w).alloc (Nat.le_refl _) (.cells #[] 9)
      go_enter Try.func89, Try.ntmps89
      go_wp2
      go_loopg [4, 3] 3 (fun g x v wr => ∃ i : Nat, i ≤ 3 ∧ Hid (g = 3 - i) ∧ x = .int .i64 ((2 ^ i : Nat) : Int) ∧ AStr w.heap.size wr v (accX G s i) ∧ Below w.heap.size w wr)
      case atStart => exact ⟨0, by omega, rfl, rfl, AStr.made (Nat.le_refl _), bn⟩
      case round =>
        clear bn
        obtain ⟨i, hi, hgk, rfl, hA, hB⟩ := hrel
        have LX := len_accX GL.out h8 i
        by_cases hi3 : i < 3
        · have LXS := hide (fun w => lx_slice (w := w) hi3)
          have HAX := hide (and_bit (s := s) h8 hi3)
          have HNX := hide (pow_int3 i)
          have hx4 : ((2 ^ i : Nat) : Int) ≤ 4 ∧ 1 ≤ ((2 ^ i : Nat) : Int) := by
            obtain rfl | rfl | rfl : i = 0 ∨ i = 1 ∨ i = 2 := by omega
            all_goals simp
          obtain ⟨X, hX⟩ : ∃ X, X = 2 ^ i := ⟨_, rfl⟩
          rw [← hX] at LXS HAX HNX hx4 ⊢
          have HX := hide hX
          clear hX
          obtain ⟨x4, x1⟩ := hx4
          go_wp2
          go_loopg [5, 3] 3 (fun g y v wr => ∃ j : Nat, j ≤ 3 ∧ Hid (g = 3 - j) ∧ y = .int .i64 ((2 ^ j : Nat) : Int) ∧ AStr w.heap.size wr v (accX G s i ++ accY G s i j) ∧ Below w.heap.size w wr)
          case atStart => exact ⟨0, by omega, rfl, rfl, by simpa [accY] using hA, hB⟩
          case round =>
            clear hA hB
            obtain ⟨j, hj, hgk2, rfl, hA, hB⟩ := hrel
            have LY := len_accY GL.out h8 i j
            by_cases hj3 : j < 3
            · have LYS := hide (fun w => lx_slice (w := w) hj3)
              have HAY := hide (and_bit (s := s) h8 hj3)
              have HNY := hide (pow_int3 j)
              have hy4 : ((2 ^ j : Nat) : Int) ≤ 4 ∧ 1 ≤ ((2 ^ j : Nat) : Int) := by
                obtain rfl | rfl | rfl : j = 0 ∨ j = 1 ∨ j = 2 := by omega
                all_goals simp
              obtain ⟨Y, hY⟩ : ∃ Y, Y = 2 ^ j := ⟨_, rfl⟩
              rw [← hY] at LYS HAY HNY hy4 ⊢
              have HY := hide hY
              clear hY
              obtain ⟨y4, y1⟩ := hy4
              cases hbi : s.testBit i
              · have hax : bits .and .i64 (s : Int) (X : Int) = 0 := by rw [HAX.out, hbi]; rfl
                have HE := hide (show accY G s i (j + 1) = accY G s i j from by simp [accY, parW, hbi])
                go_wp2
                go_roundg (3 - (j + 1))
                case measure => go_light; have := hgk2.out; omega
                case rel => go_light; exact ⟨j + 1, by omega, rfl, congrArg (Value.int .i64) HNY.out.symm, by rw [HE.out]; exact hA, hB⟩
              · have hax : bits .and .i64 (s : Int) (X : Int) = (X : Int) := by rw [HAX.out, hbi]; rfl
                have hx0 : ((X : Int) == 0) = false := beq_eq_false_iff_ne.2 (by omega)
                cases hbj : s.testBit j
                · have hay : bits .and .i64 (s : Int) (Y : Int) = 0 := by rw [HAY.out, hbj]; rfl
                  have HE := hide (show accY G s i (j + 1) = accY G s i j from by simp [accY, parW, hbj])
                  go_wp2
                  go_roundg (3 - (j + 1))
                  case measure => go_light; have := hgk2.out; omega
                  case rel => go_light; exact ⟨j + 1, by omega, rfl, congrArg (Value.int .i64) HNY.out.symm, by rw [HE.out]; exact hA, hB⟩
                · have hay : bits .and .i64 (s : Int) (Y : Int) = (Y : Int) := by rw [HAY.out, hbj]; rfl
                  have hy0 : ((Y : Int) == 0) = false := beq_eq_false_iff_ne.2 (by omega)
                  obtain ⟨p1, p2, p3, p4⟩ := PS.out i hi3 hbi
                  obtain ⟨r1, r2, r3, r4⟩ := PS.out j hj3 hbj
                  have hpp := HP.out
                  have HE := hide (show accY G s i (j + 1) = accY G s i j ++ blkW (G (s - X)) (G (s - Y)) i j (G (s - X)).length from by simp [accY, parW, hbi, hbj, HX.out, HY.out])
                  rw [← HX.out] at p1 p2 p3 p4
                  rw [← HY.out] at r1 r2 r3 r4
                  have hsx : (s : Int) - (X : Int) = ((s - X : Nat) : Int) := by omega
                  have hsy : (s : Int) - (Y : Int) = ((s - Y : Nat) : Int) := by omega
                  obtain ⟨l1, w1⟩ := GS.out (s - X) p2
                  obtain ⟨l2, w2⟩ := GS.out (s - Y) r2
                  have C1 := hide (fun w => IH2.out (s - X) w p1 p2 (by omega))
                  have C2 := hide (fun w => IH2.out (s - Y) w r1 r2 (by omega))
                  obtain ⟨SX, hSX⟩ : ∃ SX, SX = s - X := ⟨_, rfl⟩
                  obtain ⟨SY, hSY⟩ : ∃ SY, SY = s - Y := ⟨_, rfl⟩
                  rw [← hSX] at hsx l1 w1 C1 HE
                  rw [← hSY] at hsy l2 w2 C2 HE
                  obtain ⟨H, hH⟩ : ∃ H, H = G SX := ⟨_, rfl⟩
                  obtain ⟨U, hU⟩ : ∃ U, U = G SY := ⟨_, rfl⟩
                  rw [← hH] at l1 w1 C1 HE
                  rw [← hU] at l2 w2 C2 HE
                  have W1 := hide w1
                  have W2 := hide w2
                  clear hSX hSY hH hU w1 w2 p1 p2 p3 p4 r1 r2 r3 r4 hpp
                  go_wp2_with fail
                  refine (C1.out _).mono ?_
                  rintro e w3 ⟨A1, c1, rfl, q3, o3, _, _⟩
                  go_wp2_with fail
                  refine (C2.out _).mono ?_
                  rintro e w4 ⟨A2, c2, rfl, q4, o4, _, _⟩
                  have z3 := q3.size
                  have z4 := q4.size
                  have zB := hB.size
                  have S1 := (o3.below q4 (Nat.le_refl _)).mono (Nat.le_refl _) z4
                  have S2 := o4.mono z3 (Nat.le_refl _)
                  have A4 := (hA.below q3).below q4
                  have B4 := (hB.trans (q3.mono zB)).trans (q4.mono (Nat.le_trans zB z3))
                  obtain ⟨lo, hlo⟩ : ∃ lo, lo = wr.heap.size := ⟨_, rfl⟩
                  obtain ⟨hi', hhi⟩ : ∃ hi', hi' = w4.heap.size := ⟨_, rfl⟩
                  have OV := hide (show OutOf _ lo hi' from fun b hb => .inl (by rw [hlo]; exact (hA.lt b hb).2))
                  rw [← hlo] at S1 S2 z3 zB
                  rw [← hhi] at S1 S2 z4
                  have Z4 := hide hhi
                  clear hlo hhi hA hB o3 o4 q3 q4
                  go_wp2
                  go_loopg [8, 3] H.length (fun g k v wr => ∃ p : Nat, p ≤ H.length ∧ Hid (g = H.length - p) ∧ k = .int .i64 p ∧ AStr w.heap.size wr v (accX G s i ++ accY G s i j ++ blkW H U i j p) ∧ Below w.heap.size w wr ∧ Hid (OutOf v lo hi') ∧ Srow wr lo hi' A1 H ∧ Srow wr lo hi' A2 U ∧ hi' ≤ wr.heap.size)
                  case atStart => exact ⟨0, Nat.zero_le _, rfl, rfl, by simpa [blkW] using A4, B4, OV, S1, S2, Nat.le_of_eq Z4.out⟩
                  case round =>
                    clear A4 B4 OV S1 S2
                    obtain ⟨p, hp, hgk3, rfl, hA, hB, hO, S1, S2, hz⟩ := hrel
                    have LB := len_blkW H U i j p
                    have LB2 : p * U.length ≤ 20736 := Nat.mul_le_mul (by omega : p ≤ 144) l2
                    by_cases hlt : p < H.length
                    · have HQ := hide (show blkW H U i j (p + 1) = blkW H U i j p ++ rowW (sl H p) i j U U.length from rfl)
                      have hhl := W1.out (sl H p) (by rw [sl_at hlt]; exact List.getElem_mem _)
                      obtain ⟨hw, hhw⟩ : ∃ hw, hw = sl H p := ⟨_, rfl⟩
                      rw [← hhw] at HQ hhl
                      have HW := hide hhw
                      clear hhw
                      go_wp2
                      go_loopg [9, 3] U.length (fun g k v wr => ∃ q : Nat, q ≤ U.length ∧ Hid (g = U.length - q) ∧ k = .int .i64 q ∧ AStr w.heap.size wr v (accX G s i ++ accY G s i j ++ blkW H U i j p ++ rowW hw i j U q) ∧ Below w.heap.size w wr ∧ Hid (OutOf v lo hi') ∧ Srow wr lo hi' A1 H ∧ Srow wr lo hi' A2 U ∧ hi' ≤ wr.heap.size)
                      case atStart => exact ⟨0, Nat.zero_le _, rfl, rfl, by simpa [rowW] using hA, hB, hO, S1, S2, hz⟩
                      case round =>
                        clear hA hB hO S1 S2 hz
                        obtain ⟨q, hq, hgk4, rfl, hA, hB, hO, S1, S2, hz⟩ := hrel
                        have LR := len_rowW hw i j U q
                        by_cases hqt : q < U.length
                        · have HR := hide (show rowW hw i j U (q + 1) = rowW hw i j U q ++ [hw ++ [lx i] ++ [lx j] ++ sl U q] from rfl)
                          have hul := W2.out (sl U q) (by rw [sl_at hqt]; exact List.getElem_mem _)
                          obtain ⟨bh, oh, e1, _, hbh, hch⟩ := S1 p hlt
                          obtain ⟨bu, ou, e2, _, hbu, hcu⟩ := S2 q hqt
                          rw [← HW.out] at hch
                          obtain ⟨uw, huw⟩ : ∃ uw, uw = sl U q := ⟨_, rfl⟩
                          rw [← huw] at HR hul hcu
                          clear huw
                          subst e1 e2
                          have wx : IntKind.i64.wrap ((X : Int) + 1) = (X : Int) + 1 := IntWalk.i64_in _ (by omega)
                          have wy : IntKind.i64.wrap ((Y : Int) + 1) = (Y : Int) + 1 := IntWalk.i64_in _ (by omega)
                          have hpi : (p : Int) < (H.length : Int) := by omega
                          have hqi : (q : Int) < (U.length : Int) := by omega
                          have hlx := fun w => LXS.out w
                          have hly := fun w => LYS.out w
                          obtain ⟨lx1, hlx1⟩ : ∃ lx1, lx1 = lx i := ⟨_, rfl⟩
                          obtain ⟨lx2, hlx2⟩ : ∃ lx2, lx2 = lx j := ⟨_, rfl⟩
                          rw [← hlx1] at hlx HR
                          rw [← hlx2] at hly HR
                          have a1 := fun w => add_bs (P := Try.prog) hw [lx1] (by simp; omega) w
                          have a2 := fun w => add_bs (P := Try.prog) (hw ++ [lx1]) [lx2] (by simp; omega) w
                          have a3 := fun w => add_bs (P := Try.prog) (hw ++ [lx1] ++ [lx2]) uw (by simp; omega) w
                          obtain ⟨v1, hv1⟩ : ∃ v1, v1 = hw ++ [lx1] := ⟨_, rfl⟩
                          rw [← hv1] at a1 a2 a3 HR
                          obtain ⟨v2, hv2⟩ : ∃ v2, v2 = v1 ++ [lx2] := ⟨_, rfl⟩
                          rw [← hv2] at a2 a3 HR
                          obtain ⟨v3, hv3⟩ : ∃ v3, v3 = v2 ++ uw := ⟨_, rfl⟩
                          rw [← hv3] at a3 HR
                          obtain ⟨SL1, hSL1⟩ : ∃ SL1, SL1 = bs [lx1] := ⟨_, rfl⟩
                          rw [← hSL1] at hlx a1
                          obtain ⟨SL2, hSL2⟩ : ∃ SL2, SL2 = bs [lx2] := ⟨_, rfl⟩
                          rw [← hSL2] at hly a2
                          have HLN := hide (show (accX G s i ++ accY G s i j ++ blkW H U i j p ++ rowW hw i j U q).length ≤ 1048576 from by simp only [List.length_append]; omega)
                          obtain ⟨LL, hLL⟩ : ∃ LL, LL = accX G s i ++ accY G s i j ++ blkW H U i j p ++ rowW hw i j U q := ⟨_, rfl⟩
                          rw [← hLL] at hA HLN
                          have HLL := hide hLL
                          have hmx : Try.prog.follows .mixedOrders = true := by kernel_rfl
                          have hchd : wr.drew.cell? ⟨bh, oh + p, none⟩ = some (.string (bs hw)) := hch
                          have hcud : wr.drew.cell? ⟨bu, ou + q, none⟩ = some (.string (bs uw)) := hcu
                          have hAd : AStr w.heap.size wr.drew _ LL := hA
                          have hBs : w.heap.size ≤ wr.drew.heap.size := hB.size
                          have hFin : Hid (∀ (v' : Value) (w' : World), AStr w.heap.size w' v' (LL ++ [v3]) → wr.drew.grownBy w' (Value.ownBlock _) → (Value.ownBlock v' = Value.ownBlock _ ∨ Value.ownBlock v' = some (wr.drew.heap.size + 1)) →
                              AStr w.heap.size w' v' (accX G s i ++ accY G s i j ++ blkW H U i j p ++ rowW hw i j U (q + 1)) ∧ Below w.heap.size w w' ∧ OutOf v' lo hi' ∧ Srow w' lo hi' (some ⟨bh, oh, none⟩) H ∧ Srow w' lo hi' (some ⟨bu, ou, none⟩) U ∧ hi' ≤ w'.heap.size) := fun v' w' k1 k2 k3 => by
                            refine ⟨?_, ?_, ?_, ?_, ?_, ?_⟩
                            · rw [HR.out, ← List.append_assoc, ← HLL.out]; exact k1
                            · exact hB.trans ((below_drewN (B := w.heap.size) (w := wr) 1).trans (hAd.belowOf k2 (Nat.le_refl _) hBs))
                            · intro b hb
                              rcases k3 with k3 | k3
                              · exact hO.out b (k3 ▸ hb)
                              · rw [k3] at hb
                                have : wr.drew.heap.size + 1 = b := by simpa using hb
                                have hz' : hi' ≤ wr.drew.heap.size := hz
                                right; omega
                            · exact (show Srow wr.drew lo hi' _ H from S1).grown k2 hO.out hz
                            · exact (show Srow wr.drew lo hi' _ U from S2).grown k2 hO.out hz
                            · exact Nat.le_trans hz k2.size
                          clear hLL hv1 hv2 hv3 hlx1 hlx2 hSL1 hSL2 hch hcu S1 S2 hA HR
                          go_wp2
                          refine wp_region_noPanic ?_
                          refine wp_region_any hmx ?_
                          change wpAny _ _ _ _ _ _ _ (World.drew _)
                          refine wpAny_take (i := 0) (v := ?_) (by simp only [List.getElem?_toArray, List.getElem?_cons_zero]; rfl) (by kernel_rfl) (by kernel_rfl) (by kernel_rfl) (fun _ _ _ h => h) (Or.inl ⟨by rfl, ?_⟩) ?_
                          rotate_left
                          · intro w_
                            first
                              | (go_simp; done)
                              | (go_simp; with_reducible rfl)
                          try simp only [Act.put, List.setIfInBounds_toArray, List.set_cons_zero, List.set_cons_succ]
                          refine wpAny_take (i := 1) (v := ?_) (by simp only [List.getElem?_toArray, List.getElem?_cons_succ, List.getElem?_cons_zero]; rfl) (by kernel_rfl) (by kernel_rfl) (by kernel_rfl) (fun _ _ _ h => h) (Or.inl ⟨by rfl, ?_⟩) ?_
                          rotate_left
                          · intro w_
                            first
                              | (go_simp; done)
                              | (go_simp; with_reducible rfl)
                          try simp only [Act.put, List.setIfInBounds_toArray, List.set_cons_zero, List.set_cons_succ]
                          refine wpAny_take (i := 2) (v := ?_) (by simp only [List.getElem?_toArray, List.getElem?_cons_succ, List.getElem?_cons_zero]; rfl) (by kernel_rfl) (by kernel_rfl) (by kernel_rfl) (fun _ _ _ h => h) (Or.inl ⟨by rfl, ?_⟩) ?_
                          rotate_left
                          · intro w_
                            first
                              | (go_simp; done)
                              | (go_simp; with_reducible rfl)
                          try simp only [Act.put, List.setIfInBounds_toArray, List.set_cons_zero, List.set_cons_succ]
                          refine wpAny_take (i := 3) (v := ?_) (by simp only [List.getElem?_toArray, List.getElem?_cons_succ, List.getElem?_cons_zero]; rfl) (by kernel_rfl) (by kernel_rfl) (by kernel_rfl) (fun _ _ _ h => h) (Or.inl ⟨by rfl, ?_⟩) ?_
                          rotate_left
                          · intro w_
                            first
                              | (go_simp; done)
                              | (go_simp; with_reducible rfl)
                          try simp only [Act.put, List.setIfInBounds_toArray, List.set_cons_zero, List.set_cons_succ]
                          refine wpAny_take (i := 5) (v := ?_) (by simp only [List.getElem?_toArray, List.getElem?_cons_succ, List.getElem?_cons_zero]; rfl) (by kernel_rfl) (by kernel_rfl) (by kernel_rfl) (fun _ _ _ h => h) (Or.inl ⟨by rfl, ?_⟩) ?_
                          rotate_left
                          · intro w_
                            first
                              | (go_simp; done)
                              | (go_simp; with_reducible rfl)
                          try simp only [Act.put, List.setIfInBounds_toArray, List.set_cons_zero, List.set_cons_succ]
                          refine wpAny_take (i := 6) (v := ?_) (by simp only [List.getElem?_toArray, List.getElem?_cons_succ, List.getElem?_cons_zero]; rfl) (by kernel_rfl) (by kernel_rfl) (by kernel_rfl) (fun _ _ _ h => h) (Or.inl ⟨by rfl, ?_⟩) ?_
                          rotate_left
                          · intro w_
                            first
                              | (go_simp; done)
                              | (go_simp; with_reducible rfl)
                          try simp only [Act.put, List.setIfInBounds_toArray, List.set_cons_zero, List.set_cons_succ]
                          refine wpAny_take (i := 7) (v := ?_) (by simp only [List.getElem?_toArray, List.getElem?_cons_succ, List.getElem?_cons_zero]; rfl) (by kernel_rfl) (by kernel_rfl) (by kernel_rfl) (fun _ _ _ h => h) (Or.inl ⟨by rfl, ?_⟩) ?_
                          rotate_left
                          · intro w_
                            first
                              | (go_simp; done)
                              | (go_simp; with_reducible rfl)
                          try simp only [Act.put, List.setIfInBounds_toArray, List.set_cons_zero, List.set_cons_succ]
                          refine wpAny_take (i := 8) (v := ?_) (by simp only [List.getElem?_toArray, List.getElem?_cons_succ, List.getElem?_cons_zero]; rfl) (by kernel_rfl) (by kernel_rfl) (by kernel_rfl) (fun _ _ _ h => h) (Or.inl ⟨by rfl, ?_⟩) ?_
                          rotate_left
                          · intro w_
                            first
                              | (go_simp; done)
                              | (go_simp; with_reducible rfl)
                          try simp only [Act.put, List.setIfInBounds_toArray, List.set_cons_zero, List.set_cons_succ]
                          refine wpAny_take (i := 10) (v := ?_) (by simp only [List.getElem?_toArray, List.getElem?_cons_succ, List.getElem?_cons_zero]; rfl) (by kernel_rfl) (by kernel_rfl) (by kernel_rfl) (fun _ _ _ h => h) (Or.inl ⟨by rfl, ?_⟩) ?_
                          rotate_left
                          · intro w_
                            first
                              | (go_simp; done)
                              | (go_simp; with_reducible rfl)
                          try simp only [Act.put, List.setIfInBounds_toArray, List.set_cons_zero, List.set_cons_succ]
                          refine wpAny_take (i := 11) (v := ?_) (by simp only [List.getElem?_toArray, List.getElem?_cons_succ, List.getElem?_cons_zero]; rfl) (by kernel_rfl) (by kernel_rfl) (by kernel_rfl) (fun _ _ _ h => h) (Or.inl ⟨by rfl, ?_⟩) ?_
                          rotate_left
                          · intro w_
                            first
                              | (go_simp; done)
                              | (go_simp; with_reducible rfl)
                          try simp only [Act.put, List.setIfInBounds_toArray, List.set_cons_zero, List.set_cons_succ]
                          refine wpAny_take (i := 12) (v := ?_) (by simp only [List.getElem?_toArray, List.getElem?_cons_succ, List.getElem?_cons_zero]; rfl) (by kernel_rfl) (by kernel_rfl) (by kernel_rfl) (fun _ _ _ h => h) (Or.inl ⟨by rfl, ?_⟩) ?_
                          rotate_left
                          · intro w_
                            first
                              | (go_simp; done)
                              | (go_simp; with_reducible rfl)
                          try simp only [Act.put, List.setIfInBounds_toArray, List.set_cons_zero, List.set_cons_succ]
                          refine wpAny_take (i := 13) (v := ?_) (by simp only [List.getElem?_toArray, List.getElem?_cons_succ, List.getElem?_cons_zero]; rfl) (by kernel_rfl) (by kernel_rfl) (by kernel_rfl) (fun _ _ _ h => h) (Or.inl ⟨by rfl, ?_⟩) ?_
                          rotate_left
                          · intro w_
                            first
                              | (go_simp; done)
                              | (go_simp; with_reducible rfl)
                          try simp only [Act.put, List.setIfInBounds_toArray, List.set_cons_zero, List.set_cons_succ]
                          refine wpAny_take (i := 15) (v := ?_) (by simp only [List.getElem?_toArray, List.getElem?_cons_succ, List.getElem?_cons_zero]; rfl) (by kernel_rfl) (by kernel_rfl) (by kernel_rfl) (fun _ _ _ h => h) (Or.inl ⟨by rfl, ?_⟩) ?_
                          rotate_left
                          · intro w_
                            first
                              | (go_simp; done)
                              | (go_simp; with_reducible rfl)
                          try simp only [Act.put, List.setIfInBounds_toArray, List.set_cons_zero, List.set_cons_succ]
                          refine wpAny_take (i := 16) (v := ?_) (by simp only [List.getElem?_toArray, List.getElem?_cons_succ, List.getElem?_cons_zero]; rfl) (by kernel_rfl) (by kernel_rfl) (by kernel_rfl) (fun _ _ _ h => h) (Or.inl ⟨by rfl, ?_⟩) ?_
                          rotate_left
                          · intro w_
                            first
                              | (go_simp; done)
                              | (go_simp; with_reducible rfl)
                          try simp only [Act.put, List.setIfInBounds_toArray, List.set_cons_zero, List.set_cons_succ]
                          refine wpAny_take (i := 17) (v := ?_) (by simp only [List.getElem?_toArray, List.getElem?_cons_succ, List.getElem?_cons_zero]; rfl) (by kernel_rfl) (by kernel_rfl) (by kernel_rfl) (fun _ _ _ h => h) (Or.inl ⟨by rfl, ?_⟩) ?_
                          rotate_left
                          · intro w_
                            first
                              | (go_simp; done)
                              | (go_simp; with_reducible rfl)
                          try simp only [Act.put, List.setIfInBounds_toArray, List.set_cons_zero, List.set_cons_succ]
                          refine wpAny_ready (rs := [4, 18]) (by kernel_rfl) (by simp) ?_
                          refine AllReady.cons (by simp only [List.getElem?_toArray, List.getElem?_cons_succ, List.getElem?_cons_zero]; rfl) (fun K hK => ?_) ?_
                          · go_simp
                            refine hK _ _ ?_
                            clear hK K
                            try simp only [Act.put, List.setIfInBounds_toArray, List.set_cons_zero, List.set_cons_succ]
                            refine wpAny_take (i := 9) (v := ?_) (by simp only [List.getElem?_toArray, List.getElem?_cons_succ, List.getElem?_cons_zero]; rfl) (by kernel_rfl) (by kernel_rfl) (by kernel_rfl) (fun _ _ _ h => h) (Or.inl ⟨by rfl, ?_⟩) ?_
                            rotate_left
                            · intro w_
                              first
                                | (go_simp; done)
                                | (go_simp; with_reducible rfl)
                            try simp only [Act.put, List.setIfInBounds_toArray, List.set_cons_zero, List.set_cons_succ]
                            refine wpAny_take (i := 14) (v := ?_) (by simp only [List.getElem?_toArray, List.getElem?_cons_succ, List.getElem?_cons_zero]; rfl) (by kernel_rfl) (by kernel_rfl) (by kernel_rfl) (fun _ _ _ h => h) (Or.inl ⟨by rfl, ?_⟩) ?_
                            rotate_left
                            · intro w_
                              first
                                | (go_simp; done)
                                | (go_simp; with_reducible rfl)
                            try simp only [Act.put, List.setIfInBounds_toArray, List.set_cons_zero, List.set_cons_succ]
                            refine wpAny_ready (rs := [18]) (by kernel_rfl) (by simp) ?_
                            refine AllReady.cons (by simp only [List.getElem?_toArray, List.getElem?_cons_succ, List.getElem?_cons_zero]; rfl) (fun K hK => ?_) AllReady.nil
                            go_simp
                            refine hK _ _ ?_
                            clear hK K
                            try simp only [Act.put, List.setIfInBounds_toArray, List.set_cons_zero, List.set_cons_succ]
                            refine wpAny_take (i := 19) (v := ?_) (by simp only [List.getElem?_toArray, List.getElem?_cons_succ, List.getElem?_cons_zero]; rfl) (by kernel_rfl) (by kernel_rfl) (by kernel_rfl) (fun _ _ _ h => h) (Or.inl ⟨by rfl, ?_⟩) ?_
                            rotate_left
                            · intro w_
                              first
                                | (go_simp; done)
                                | (go_simp; with_reducible rfl)
                            try simp only [Act.put, List.setIfInBounds_toArray, List.set_cons_zero, List.set_cons_succ]
                            refine wpAny_ready (rs := [20]) (by kernel_rfl) (by simp) ?_
                            refine AllReady.cons (by simp only [List.getElem?_toArray, List.getElem?_cons_succ, List.getElem?_cons_zero]; rfl) (fun K hK => ?_) AllReady.nil
                            go_simp
                            refine hK _ _ ?_
                            clear hK K
                            try simp only [Act.put, List.setIfInBounds_toArray, List.set_cons_zero, List.set_cons_succ]
                            refine wpAny_ready (rs := [21]) (by kernel_rfl) (by simp) ?_
                            refine AllReady.cons (by simp only [List.getElem?_toArray, List.getElem?_cons_succ, List.getElem?_cons_zero]; rfl) (fun K hK => ?_) AllReady.nil
                            refine step_app_str_at rfl (.tmp 64) (.tmp 84) rfl w.heap.size _ LL v3 rfl rfl hAd HLN.out hBs ?_
                            intro v9 w9 g1 g2 g3
                            obtain ⟨k1, k2, k3, k4, k5, k6⟩ := hFin.out v9 w9 g1 g2 g3
                            refine hK _ _ ?_
                            clear hK K
                            try simp only [Act.put, List.setIfInBounds_toArray, List.set_cons_zero, List.set_cons_succ]
                            refine wpAny_take (i := 22) (v := ?_) (by simp only [List.getElem?_toArray, List.getElem?_cons_succ, List.getElem?_cons_zero]; rfl) (by kernel_rfl) (by kernel_rfl) (by kernel_rfl) (fun _ _ _ h => h) (Or.inl ⟨by rfl, ?_⟩) ?_
                            rotate_left
                            · intro w_
                              first
                                | (go_simp; done)
                                | (go_simp; with_reducible rfl)
                            try simp only [Act.put, List.setIfInBounds_toArray, List.set_cons_zero, List.set_cons_succ]
                            refine wpAny_done (by kernel_rfl) (NoPanic.normal ?_) _
                            go_wp2
                            go_roundg (U.length - (q + 1))
                            case measure => go_light; have := hgk4.out; omega
                            case rel => go_light; exact ⟨q + 1, by omega, rfl, by go_num, k1, k2, k3, k4, k5, k6⟩
                          · refine AllReady.cons (by simp only [List.getElem?_toArray, List.getElem?_cons_succ, List.getElem?_cons_zero]; rfl) (fun K hK => ?_) AllReady.nil
                            go_simp
                            refine hK _ _ ?_
                            clear hK K
                            try simp only [Act.put, List.setIfInBounds_toArray, List.set_cons_zero, List.set_cons_succ]
                            refine wpAny_ready (rs := [4]) (by kernel_rfl) (by simp) ?_
                            refine AllReady.cons (by simp only [List.getElem?_toArray, List.getElem?_cons_succ, List.getElem?_cons_zero]; rfl) (fun K hK => ?_) AllReady.nil
                            go_simp
                            refine hK _ _ ?_
                            clear hK K
                            try simp only [Act.put, List.setIfInBounds_toArray, List.set_cons_zero, List.set_cons_succ]
                            refine wpAny_take (i := 9) (v := ?_) (by simp only [List.getElem?_toArray, List.getElem?_cons_succ, List.getElem?_cons_zero]; rfl) (by kernel_rfl) (by kernel_rfl) (by kernel_rfl) (fun _ _ _ h => h) (Or.inl ⟨by rfl, ?_⟩) ?_
                            rotate_left
                            · intro w_
                              first
                                | (go_simp; done)
                                | (go_simp; with_reducible rfl)
                            try simp only [Act.put, List.setIfInBounds_toArray, List.set_cons_zero, List.set_cons_succ]
                            refine wpAny_take (i := 14) (v := ?_) (by simp only [List.getElem?_toArray, List.getElem?_cons_succ, List.getElem?_cons_zero]; rfl) (by kernel_rfl) (by kernel_rfl) (by kernel_rfl) (fun _ _ _ h => h) (Or.inl ⟨by rfl, ?_⟩) ?_
                            rotate_left
                            · intro w_
                              first
                                | (go_simp; done)
                                | (go_simp; with_reducible rfl)
                            try simp only [Act.put, List.setIfInBounds_toArray, List.set_cons_zero, List.set_cons_succ]
                            refine wpAny_take (i := 19) (v := ?_) (by simp only [List.getElem?_toArray, List.getElem?_cons_succ, List.getElem?_cons_zero]; rfl) (by kernel_rfl) (by kernel_rfl) (by kernel_rfl) (fun _ _ _ h => h) (Or.inl ⟨by rfl, ?_⟩) ?_
                            rotate_left
                            · intro w_
                              first
                                | (go_simp; done)
                                | (go_simp; with_reducible rfl)
                            try simp only [Act.put, List.setIfInBounds_toArray, List.set_cons_zero, List.set_cons_succ]
                            refine wpAny_ready (rs := [20]) (by kernel_rfl) (by simp) ?_
                            refine AllReady.cons (by simp only [List.getElem?_toArray, List.getElem?_cons_succ, List.getElem?_cons_zero]; rfl) (fun K hK => ?_) AllReady.nil
                            go_simp
                            refine hK _ _ ?_
                            clear hK K
                            try simp only [Act.put, List.setIfInBounds_toArray, List.set_cons_zero, List.set_cons_succ]
                            refine wpAny_ready (rs := [21]) (by kernel_rfl) (by simp) ?_
                            refine AllReady.cons (by simp only [List.getElem?_toArray, List.getElem?_cons_succ, List.getElem?_cons_zero]; rfl) (fun K hK => ?_) AllReady.nil
                            refine step_app_str_at rfl (.tmp 64) (.tmp 84) rfl w.heap.size _ LL v3 rfl rfl hAd HLN.out hBs ?_
                            intro v9 w9 g1 g2 g3
                            obtain ⟨k1, k2, k3, k4, k5, k6⟩ := hFin.out v9 w9 g1 g2 g3
                            refine hK _ _ ?_
                            clear hK K
                            try simp only [Act.put, List.setIfInBounds_toArray, List.set_cons_zero, List.set_cons_succ]
                            refine wpAny_take (i := 22) (v := ?_) (by simp only [List.getElem?_toArray, List.getElem?_cons_succ, List.getElem?_cons_zero]; rfl) (by kernel_rfl) (by kernel_rfl) (by kernel_rfl) (fun _ _ _ h => h) (Or.inl ⟨by rfl, ?_⟩) ?_
                            rotate_left
                            · intro w_
                              first
                                | (go_simp; done)
                                | (go_simp; with_reducible rfl)
                            try simp only [Act.put, List.setIfInBounds_toArray, List.set_cons_zero, List.set_cons_succ]
                            refine wpAny_done (by kernel_rfl) (NoPanic.normal ?_) _
                            go_wp2
                            go_roundg (U.length - (q + 1))
                            case measure => go_light; have := hgk4.out; omega
                            case rel => go_light; exact ⟨q + 1, by omega, rfl, by go_num, k1, k2, k3, k4, k5, k6⟩
                        · obtain rfl : q = U.length := by omega
                          go_wp2
                          go_roundg (H.length - (p + 1))
                          case measure => go_light; have := hgk3.out; omega
                          case rel => go_light; exact ⟨p + 1, by omega, rfl, by go_num, by rw [HQ.out, ← List.append_assoc]; exact hA, hB, hO, S1, S2, hz⟩
                    · obtain rfl : p = H.length := by omega
                      go_wp2
                      go_roundg (3 - (j + 1))
                      case measure => go_light; have := hgk2.out; omega
                      case rel => go_light; exact ⟨j + 1, by omega, rfl, congrArg (Value.int .i64) HNY.out.symm, by rw [HE.out, ← List.append_assoc]; exact hA, hB⟩
            · obtain rfl : j = 3 := by omega
              go_wp2
              go_roundg (3 - (i + 1))
              case measure => go_light; have := hgk.out; omega
              case rel => go_light; exact ⟨i + 1, by omega, rfl, congrArg (Value.int .i64) HNX.out.symm, hA, hB⟩
        · obtain rfl : i = 3 := by omega
          obtain ⟨A9, c9, rfl, d1, d2, hR⟩ := hA.val
          go_wp2
          go_ret
          rw [HF.out]
          exact ⟨A9, c9, rfl, hB, hR, d1, d2⟩
end Go.Proofs.Ythllbekoidogpaa

namespace Go.Proofs.Ythllbekoidogpaa
open Go.RowKit
set_option linter.unusedVariables false


/-- 'append(row, texts...)'. -/
theorem wp_app_strs {ops : Array Oper} {rest : List Oper} {o : Oper} {a : Act} {Q : Exit → Act → World → Prop} {w : World} (hgd : o.guard = none) (s x : Operand)
    (ho : o.op = .call { callee := .builtin .append, args := #[s, x], argTypes := #[69, 69] }) (base : Nat) (v : Value) (L M : List (List UInt8)) (b of c lo hi : Nat) (hs : a.eval s = v) (hx : a.eval x = .slice (some ⟨b, of, none⟩) M.length c)
    (hown : AStr base w v L) (hM : Srow w lo hi (some ⟨b, of, none⟩) M) (hn : L.length + M.length ≤ 1048576) (hb : base ≤ w.heap.size)
    (h : ∀ v' w', AStr base w' v' (L ++ M) → w.grownBy w' v.ownBlock → wpList Try.prog ops Q rest (a.put o.dst v') w') : wpList Try.prog ops Q (o :: rest) a w := by
  obtain ⟨i0, hi0, hz0, hz1, hz2⟩ := info_parts info_str
  refine wpList_append_own _ hgd s x 69 ho base 9 i0 (.string ⟨#[]⟩) 1 16 Try.underlying69 hi0 hz0 hz1 hz2 rfl (by decide) v _ _ hs hown ⟨b, of, none⟩ M.length c (M.map fun u => Value.string (bs u)) hx (by simp)
    (fun j u hu => ?_) (fun u hu => ?_) (by rw [maxLen_is]; omega) (by omega) hb ?_
  · rw [List.getElem?_map] at hu
    cases e : M[j]? with
    | none => rw [e] at hu; cases hu
    | some y =>
      rw [e] at hu
      obtain ⟨hj, ey⟩ := List.getElem?_eq_some_iff.1 e
      obtain ⟨b', o', e1, _, _, hc⟩ := hM j hj
      obtain ⟨e2, e3⟩ : b = b' ∧ of = o' := by simpa using e1
      subst e2 e3
      rw [sl_at hj, ey] at hc
      have : u = Value.string (bs y) := by simpa using hu.symm
      rw [this]
      rw [Addr.add_lit]
      exact hc
  · obtain ⟨y, _, rfl⟩ := List.mem_map.1 hu
    rfl
  · intro v' w' h1 h2 _
    exact h v' w' (by unfold AStr; simpa using h1) h2
theorem less_bs {P : Program} (u v : List UInt8) (w : World) : (Op.stringOp .lss (bs u) (bs v)).run P w = .ok (.bool (lsB u v)) w := by
  unfold Op.stringOp lsB
  rw [toList_bs, toList_bs]
  rfl
theorem SCells.put {w : World} {g : Nat} {L : List (List UInt8)} (h : SCells w g L) {j : Nat} (hj : j < L.length) (z : List UInt8) : SCells (w.setCell ⟨g, j, none⟩ (.string (bs z))) g (L.set j z) := fun i hi => by
  rw [List.length_set] at hi
  rw [sl_set hj]
  by_cases e : i = j
  · subst e
    rw [if_pos rfl]
    exact ⟨cell_set_same (h i hi).1, by rw [frozen_set]; exact (h i hi).2⟩
  · rw [if_neg e]
    exact ⟨by rw [World.cell?_setCell_other _ _ _ _ (fun e2 => e (by injection e2 with _ h2 _; exact h2.symm))]; exact (h i hi).1, by rw [frozen_set]; exact (h i hi).2⟩
theorem SCells.swap {w : World} {g : Nat} {L : List (List UInt8)} (h : SCells w g L) {j : Nat} (hj : j + 1 < L.length) :
    SCells ((w.setCell ⟨g, j + 1, none⟩ (.string (bs (sl L j)))).setCell ⟨g, j, none⟩ (.string (bs (sl L (j + 1))))) g (swp L j) :=
  (h.put hj _).put (by rw [List.length_set]; omega) _

set_option maxRecDepth 20000 in
set_option maxHeartbeats 4000000 in
theorem l8Sorted_any (b of c lo hi : Nat) (L : List (List UInt8)) (w : World) (h : Srow w lo hi (some ⟨b, of, none⟩) L) (hh : hi ≤ w.heap.size) (hn : L.length ≤ 1048576) :
    Calls Try.prog 90 #[.slice (some ⟨b, of, none⟩) L.length c] w (NewStr w (srt L)) := by
  have bn := (Below.refl w.heap.size w).alloc (Nat.le_refl _) (.cells #[] 9)
  have hM := h.below bn hh
  have hA := AStr.made (w := w) (Nat.le_refl _)
  have hz0 : w.heap.size ≤ (w.alloc (.cells #[] 9)).heap.size := by simp
  go_enter Try.func90, Try.ntmps90
  go_wp2_with (at_builtin; refine wp_app_strs rfl (.tmp 7) (.tmp 8) rfl w.heap.size _ [] L b of c lo hi rfl rfl hA hM (by simpa using hn) hz0 ?_; intro v1 w1 hown1 hg1)
  rw [List.nil_append] at hown1
  have hB1 := bn.trans ((hA.belowOf hg1 (Nat.le_refl _) hz0))
  obtain ⟨A1, c1, rfl, l1, m1, hO⟩ := hown1.ostr
  clear hown1 hg1 hA hM h bn
  rcases hO with h0 | ⟨g, rfl, g1, g2, hC⟩
  · have hx : L = [] := List.eq_nil_of_length_eq_zero h0
    subst hx
    go_wp2
    go_loopg [4] 1 (fun g i wr => i = .int .i64 1 ∧ w1 = wr)
    case atStart => exact ⟨rfl, rfl⟩
    case round =>
      obtain ⟨rfl, rfl⟩ := hrel
      go_wp2
      go_ret
      exact ⟨A1, c1, rfl, hB1, Srow.nil _ _ _ _, by simp [srt, srtK], m1⟩
  · by_cases hl0 : L.length = 0
    · have hx : L = [] := List.eq_nil_of_length_eq_zero hl0
      subst hx
      go_wp2
      go_loopg [4] 1 (fun g i wr => i = .int .i64 1 ∧ w1 = wr)
      case atStart => exact ⟨rfl, rfl⟩
      case round =>
        obtain ⟨rfl, rfl⟩ := hrel
        go_wp2
        go_ret
        exact ⟨_, c1, rfl, hB1, Srow.nil _ _ _ _, by simp [srt, srtK], m1⟩
    · go_wp2
      go_loopg [4] L.length (fun m i wr => ∃ k : Nat, 1 ≤ k ∧ k ≤ L.length ∧ Hid (m + k = L.length + 1) ∧ i = .int .i64 k ∧ SCells wr g (srtK L k) ∧ Below w.heap.size w wr ∧ g < wr.heap.size)
      case atStart => exact ⟨1, Nat.le_refl _, by omega, (show _ = _ from by omega), rfl, hC, hB1, g2⟩
      case round =>
        clear hC hB1 g2
        obtain ⟨k, hk1, hk, hgk, rfl, hC, hB, g2⟩ := hrel
        by_cases hlt : k < L.length
        · have HK := hide (show inn (srtK L k) k = srtK L (k + 1) from rfl)
          have HL := hide (len_srtK (L := L) (k := k) (by omega))
          go_wp2
          go_loopg [5] k (fun m i wr => ∃ (j : Nat) (M : List (List UInt8)), j ≤ k ∧ Hid (m = j) ∧ i = .int .i64 j ∧ Hid (M.length = L.length) ∧ SCells wr g M ∧ Hid (inn M j = srtK L (k + 1)) ∧ Below w.heap.size w wr ∧ g < wr.heap.size)
          case atStart => exact ⟨k, srtK L k, Nat.le_refl _, rfl, rfl, HL.out, hC, HK.out, hB, g2⟩
          case round =>
            clear hC hB g2 HK HL
            obtain ⟨j, M, hj, hgk2, rfl, hML, hC, hI, hB, g2⟩ := hrel
            cases j with
            | zero =>
              have hd : decide (((0 : Nat) : Int) > 0) = false := by decide
              go_wp2
              go_quiet (fail)
              go_wp2
              go_roundg (L.length - k)
              case measure => go_light; have := hgk.out; omega
              case rel => go_light; exact ⟨k + 1, by omega, by omega, (show _ = _ from by omega), by go_num, by rw [← hI.out]; exact hC, Below.drewN_ hB _, g2⟩
            | succ j =>
              have hd : decide (((j + 1 : Nat) : Int) > 0) = true := by simp
              obtain ⟨c1', f1'⟩ := hC (j + 1) (by rw [hML.out]; omega)
              obtain ⟨c0', f0'⟩ := hC j (by rw [hML.out]; omega)
              have HI := hide hI.out
              have hj1 : ((j + 1 : Nat) : Int) - 1 = (j : Int) := by omega
              obtain ⟨x1, hx1⟩ : ∃ x1, x1 = sl M (j + 1) := ⟨_, rfl⟩
              obtain ⟨x0, hx0⟩ : ∃ x0, x0 = sl M j := ⟨_, rfl⟩
              have HS := hide (hC.swap (j := j) (by rw [hML.out]; omega))
              rw [← hx1] at c1' HS
              rw [← hx0] at c0' HS
              have hls : Op.bytesLess (bs x1).toList (bs x0).toList = lsB x1 x0 := by rw [toList_bs, toList_bs]; rfl
              cases hb : lsB x1 x0
              · have HE := hide (show inn M (j + 1) = M from by unfold inn; rw [← hx1, ← hx0, hb]; rfl)
                rw [hb] at hls
                clear hx1 hx0 HS hI
                go_wp2
                go_quiet (fail)
                go_wp2
                go_roundg (L.length - k)
                case measure => go_light; have := hgk.out; omega
                case rel => go_light; exact ⟨k + 1, by omega, by omega, (show _ = _ from by omega), by go_num, by rw [← HI.out, HE.out]; exact hC, Below.drewN_ hB _, g2⟩
              · have HE := hide (show inn (swp M j) j = srtK L (k + 1) from by rw [← HI.out]; show _ = inn M (j + 1); rw [show inn M (j + 1) = if lsB (sl M (j + 1)) (sl M j) = true then inn (swp M j) j else M from rfl, ← hx1, ← hx0, hb]; rfl)
                have HL2 := hide (show (swp M j).length = L.length from (len_swp j).trans hML.out)
                rw [hb] at hls
                have HB := hide (fun v1 v2 => (hB.setCell (p := ⟨g, j + 1, none⟩) (by show w.heap.size ≤ g; omega) v1).setCell (p := ⟨g, j, none⟩) (by show w.heap.size ≤ g; omega) v2)
                clear hx1 hx0 hI hC
                go_wp2
                go_quiet (fail)
                go_wp2
                go_roundg j
                case measure => go_light; have := hgk2.out; omega
                case rel => go_light; exact ⟨j, swp M j, by omega, rfl, by go_num, HL2.out, HS.out, HE.out, Below.drewN_ (HB.out _ _) _, by simpa [World.setCell] using g2⟩
        · obtain rfl : k = L.length := by omega
          go_wp2
          go_ret
          have e : (Ending.returned (.slice (some ⟨g, 0, none⟩) L.length c1)) = .returned (.slice (some ⟨g, 0, none⟩) (srt L).length c1) := by rw [len_srt]
          have hC2 : SCells wr g (srt L) := hC
          exact ⟨some ⟨g, 0, none⟩, c1, e, hB, fun j hj => ⟨g, 0, rfl, g1, g2, by rw [Nat.zero_add]; exact (hC2 j hj).1⟩, by rw [len_srt]; exact l1, m1⟩
end Go.Proofs.Ythllbekoidogpaa

namespace Go.Proofs.Ythllbekoidogpaa
open Go.RowKit
set_option linter.unusedVariables false


theorem NewStr.at_ {w : World} {L : List (List UInt8)} {e : Ending} {w' : World} (h : NewStr w L e w') (h1 : 1 ≤ L.length) :
    ∃ b of c, e = .returned (.slice (some ⟨b, of, none⟩) L.length c) ∧ Below w.heap.size w w' ∧ Srow w' w.heap.size w'.heap.size (some ⟨b, of, none⟩) L ∧ L.length ≤ c ∧ c ≤ 9223372036854775807 := by
  obtain ⟨A, c, rfl, hb, hR, h2, h3⟩ := h
  obtain ⟨b, o, rfl, _⟩ := hR 0 (by omega)
  exact ⟨b, o, c, rfl, hb, hR, h2, h3⟩
theorem NewStr.after {w w1 : World} {L : List (List UInt8)} {e : Ending} {w' : World} (hb : Below w.heap.size w w1) (h : NewStr w1 L e w') : NewStr w L e w' := by
  obtain ⟨A, c, e, b, hR, h2, h3⟩ := h
  exact ⟨A, c, e, hb.trans (b.mono hb.size), hR.mono hb.size (Nat.le_refl _), h2, h3⟩
theorem l8Sorted_nil (b of c : Nat) (w : World) : Calls Try.prog 90 #[.slice (some ⟨b, of, none⟩) 0 c] w (NewStr w []) :=
  l8Sorted_any b of c 0 0 [] w (Srow.nil _ _ _ _) (Nat.zero_le _) (Nat.zero_le _)
set_option maxRecDepth 20000 in
set_option maxHeartbeats 4000000 in
theorem sAllWords1 (G : List (List UInt8)) (hG : allC (2 - 1) = G) (hG1 : 1 ≤ G.length) (hG2 : G.length ≤ 159) (w : World) : Calls Try.prog 73 #[.int .i64 1] w (NewStr w (srt G)) := by
  have HG := hide hG
  clear hG
  have bn := (Below.refl w.heap.size w).alloc (Nat.le_refl _) (.cells #[] 9)
  have hA0 := AStr.made (w := w) (Nat.le_refl _)
  go_enter Try.func73, Try.ntmps73
  go_wp2
  go_loopg [4, 3] 1 (fun g i v wr => ∃ k : Nat, 1 ≤ k ∧ k ≤ 2 ∧ Hid (g = 2 - k) ∧ i = .int .i64 k ∧ AStr w.heap.size wr v (allC (k - 1)) ∧ Below w.heap.size w wr)
  case atStart => exact ⟨1, Nat.le_refl _, by omega, rfl, rfl, hA0, bn⟩
  case round =>
    clear hA0 bn
    obtain ⟨k, k1, kN, hgk, rfl, hA, hB⟩ := hrel
    by_cases hlt : k < 2
    · have HN := hide (full_ne (s := k) k1 (by omega))
      have HL := hide (full_len (s := k) (by omega))
      have HP := hide (pc_le (s := k) (by omega))
      have HC := hide (len_allC (k - 1) (by omega))
      have HS := hide (show allC (k - 1) ++ fullF 3 k = allC k from by
        obtain ⟨j, rfl⟩ : ∃ j, k = j + 1 := ⟨k - 1, by omega⟩
        rfl)
      have hs := hB.size
      go_wp2_with (first
        | (go_at_call 59; refine (l1In_any 1 1 3 _).mono ?_; rintro e w' ⟨rfl, rfl⟩)
        | fail)
      refine (l8Full_any 3 (by decide) k _ k1 (by omega) HP.out).mono ?_
      intro e w1 hNS
      obtain ⟨b, of, c, rfl, b1, hR, l1, m1⟩ := hNS.at_ HN.out
      clear hNS
      have hA1 := hA.below b1
      have hs1 := Nat.le_trans hs b1.size
      have hll : (allC (k - 1)).length + (fullF 3 k).length ≤ 1048576 := by have := HC.out; have := HL.out; omega
      go_wp2_with (at_builtin; refine wp_app_strs rfl (.tmp 16) (.tmp 18) rfl w.heap.size _ _ _ b of c _ _ rfl rfl hA1 hR hll hs1 ?_; intro v2 w2 hown2 hg2)
      go_roundg (2 - (k + 1))
      case measure => go_light; have := hgk.out; omega
      case rel => go_light; exact ⟨k + 1, by omega, by omega, rfl, by go_num, by rw [Nat.add_sub_cancel, ← HS.out]; exact hown2, (hB.trans (b1.mono hs)).trans (hA1.belowOf hg2 (Nat.le_refl _) hs1)⟩
    · obtain rfl : k = 2 := by omega
      rw [HG.out] at hA
      obtain ⟨A3, c3, rfl, l3, m3, hR⟩ := hA.val
      obtain ⟨b, of, rfl, _⟩ := hR 0 (by omega)
      go_wp2_with (first
        | (go_at_call 59; refine (l1In_any 1 1 3 _).mono ?_; rintro e w' ⟨rfl, rfl⟩)
        | fail)
      refine (l8Sorted_any b of c3 _ _ G _ hR (Nat.le_refl _) (by omega)).mono ?_
      intro e w2 hN
      obtain ⟨A2, c2, rfl, b2, hR2, l2, m2⟩ := hN.after hB
      go_wp2
      go_ret
      exact ⟨A2, c2, rfl, b2, hR2, l2, m2⟩
set_option maxRecDepth 20000 in
set_option maxHeartbeats 4000000 in
theorem sAllWords2 (G : List (List UInt8)) (hG : allC (4 - 1) = G) (hG1 : 1 ≤ G.length) (hG2 : G.length ≤ 159) (w : World) : Calls Try.prog 73 #[.int .i64 2] w (NewStr w (srt G)) := by
  have HG := hide hG
  clear hG
  have bn := (Below.refl w.heap.size w).alloc (Nat.le_refl _) (.cells #[] 9)
  have hA0 := AStr.made (w := w) (Nat.le_refl _)
  go_enter Try.func73, Try.ntmps73
  go_wp2
  go_loopg [4, 3] 3 (fun g i v wr => ∃ k : Nat, 1 ≤ k ∧ k ≤ 4 ∧ Hid (g = 4 - k) ∧ i = .int .i64 k ∧ AStr w.heap.size wr v (allC (k - 1)) ∧ Below w.heap.size w wr)
  case atStart => exact ⟨1, Nat.le_refl _, by omega, rfl, rfl, hA0, bn⟩
  case round =>
    clear hA0 bn
    obtain ⟨k, k1, kN, hgk, rfl, hA, hB⟩ := hrel
    by_cases hlt : k < 4
    · have HN := hide (full_ne (s := k) k1 (by omega))
      have HL := hide (full_len (s := k) (by omega))
      have HP := hide (pc_le (s := k) (by omega))
      have HC := hide (len_allC (k - 1) (by omega))
      have HS := hide (show allC (k - 1) ++ fullF 3 k = allC k from by
        obtain ⟨j, rfl⟩ : ∃ j, k = j + 1 := ⟨k - 1, by omega⟩
        rfl)
      have hs := hB.size
      go_wp2_with (first
        | (go_at_call 59; refine (l1In_any 2 1 3 _).mono ?_; rintro e w' ⟨rfl, rfl⟩)
        | fail)
      refine (l8Full_any 3 (by decide) k _ k1 (by omega) HP.out).mono ?_
      intro e w1 hNS
      obtain ⟨b, of, c, rfl, b1, hR, l1, m1⟩ := hNS.at_ HN.out
      clear hNS
      have hA1 := hA.below b1
      have hs1 := Nat.le_trans hs b1.size
      have hll : (allC (k - 1)).length + (fullF 3 k).length ≤ 1048576 := by have := HC.out; have := HL.out; omega
      go_wp2_with (at_builtin; refine wp_app_strs rfl (.tmp 16) (.tmp 18) rfl w.heap.size _ _ _ b of c _ _ rfl rfl hA1 hR hll hs1 ?_; intro v2 w2 hown2 hg2)
      go_roundg (4 - (k + 1))
      case measure => go_light; have := hgk.out; omega
      case rel => go_light; exact ⟨k + 1, by omega, by omega, rfl, by go_num, by rw [Nat.add_sub_cancel, ← HS.out]; exact hown2, (hB.trans (b1.mono hs)).trans (hA1.belowOf hg2 (Nat.le_refl _) hs1)⟩
    · obtain rfl : k = 4 := by omega
      rw [HG.out] at hA
      obtain ⟨A3, c3, rfl, l3, m3, hR⟩ := hA.val
      obtain ⟨b, of, rfl, _⟩ := hR 0 (by omega)
      go_wp2_with (first
        | (go_at_call 59; refine (l1In_any 2 1 3 _).mono ?_; rintro e w' ⟨rfl, rfl⟩)
        | fail)
      refine (l8Sorted_any b of c3 _ _ G _ hR (Nat.le_refl _) (by omega)).mono ?_
      intro e w2 hN
      obtain ⟨A2, c2, rfl, b2, hR2, l2, m2⟩ := hN.after hB
      go_wp2
      go_ret
      exact ⟨A2, c2, rfl, b2, hR2, l2, m2⟩
set_option maxRecDepth 20000 in
set_option maxHeartbeats 4000000 in
theorem sAllWords3 (G : List (List UInt8)) (hG : allC (8 - 1) = G) (hG1 : 1 ≤ G.length) (hG2 : G.length ≤ 159) (w : World) : Calls Try.prog 73 #[.int .i64 3] w (NewStr w (srt G)) := by
  have HG := hide hG
  clear hG
  have bn := (Below.refl w.heap.size w).alloc (Nat.le_refl _) (.cells #[] 9)
  have hA0 := AStr.made (w := w) (Nat.le_refl _)
  go_enter Try.func73, Try.ntmps73
  go_wp2
  go_loopg [4, 3] 7 (fun g i v wr => ∃ k : Nat, 1 ≤ k ∧ k ≤ 8 ∧ Hid (g = 8 - k) ∧ i = .int .i64 k ∧ AStr w.heap.size wr v (allC (k - 1)) ∧ Below w.heap.size w wr)
  case atStart => exact ⟨1, Nat.le_refl _, by omega, rfl, rfl, hA0, bn⟩
  case round =>
    clear hA0 bn
    obtain ⟨k, k1, kN, hgk, rfl, hA, hB⟩ := hrel
    by_cases hlt : k < 8
    · have HN := hide (full_ne (s := k) k1 (by omega))
      have HL := hide (full_len (s := k) (by omega))
      have HP := hide (pc_le (s := k) (by omega))
      have HC := hide (len_allC (k - 1) (by omega))
      have HS := hide (show allC (k - 1) ++ fullF 3 k = allC k from by
        obtain ⟨j, rfl⟩ : ∃ j, k = j + 1 := ⟨k - 1, by omega⟩
        rfl)
      have hs := hB.size
      go_wp2_with (first
        | (go_at_call 59; refine (l1In_any 3 1 3 _).mono ?_; rintro e w' ⟨rfl, rfl⟩)
        | fail)
      refine (l8Full_any 3 (by decide) k _ k1 (by omega) HP.out).mono ?_
      intro e w1 hNS
      obtain ⟨b, of, c, rfl, b1, hR, l1, m1⟩ := hNS.at_ HN.out
      clear hNS
      have hA1 := hA.below b1
      have hs1 := Nat.le_trans hs b1.size
      have hll : (allC (k - 1)).length + (fullF 3 k).length ≤ 1048576 := by have := HC.out; have := HL.out; omega
      go_wp2_with (at_builtin; refine wp_app_strs rfl (.tmp 16) (.tmp 18) rfl w.heap.size _ _ _ b of c _ _ rfl rfl hA1 hR hll hs1 ?_; intro v2 w2 hown2 hg2)
      go_roundg (8 - (k + 1))
      case measure => go_light; have := hgk.out; omega
      case rel => go_light; exact ⟨k + 1, by omega, by omega, rfl, by go_num, by rw [Nat.add_sub_cancel, ← HS.out]; exact hown2, (hB.trans (b1.mono hs)).trans (hA1.belowOf hg2 (Nat.le_refl _) hs1)⟩
    · obtain rfl : k = 8 := by omega
      rw [HG.out] at hA
      obtain ⟨A3, c3, rfl, l3, m3, hR⟩ := hA.val
      obtain ⟨b, of, rfl, _⟩ := hR 0 (by omega)
      go_wp2_with (first
        | (go_at_call 59; refine (l1In_any 3 1 3 _).mono ?_; rintro e w' ⟨rfl, rfl⟩)
        | fail)
      refine (l8Sorted_any b of c3 _ _ G _ hR (Nat.le_refl _) (by omega)).mono ?_
      intro e w2 hN
      obtain ⟨A2, c2, rfl, b2, hR2, l2, m2⟩ := hN.after hB
      go_wp2
      go_ret
      exact ⟨A2, c2, rfl, b2, hR2, l2, m2⟩
set_option maxRecDepth 20000 in
set_option maxHeartbeats 4000000 in
theorem sAllWords_any (m : Int) (w : World) : Calls Try.prog 73 #[.int .i64 m] w (NewStr w (allW m)) := by
  cases hc : (decide (1 ≤ m) && decide (m ≤ 3))
  · have HE := hide (allW_not hc)
    have bn := (Below.refl w.heap.size w).alloc (Nat.le_refl _) (.cells #[] 9)
    go_enter Try.func73, Try.ntmps73
    go_wp2
    go_loopg [4, 3] 1 (fun g i v wr => i = .int .i64 1 ∧ v = .slice (some ⟨w.heap.size, 0, none⟩) 0 0 ∧ Below w.heap.size w wr)
    case atStart => exact ⟨rfl, rfl, bn⟩
    case round =>
      clear bn
      obtain ⟨rfl, rfl, hB⟩ := hrel
      go_wp2_with (first
        | (go_at_call 59; refine (l1In_any m 1 3 _).mono ?_; rw [hc]; rintro e w' ⟨rfl, rfl⟩)
        | fail)
      refine (l8Sorted_nil w.heap.size 0 0 _).mono ?_
      intro e w2 hN
      obtain ⟨A2, c2, rfl, b2, hR2, l2, m2⟩ := hN.after hB
      go_wp2
      go_ret
      rw [HE.out]
      exact ⟨A2, c2, rfl, b2, hR2, l2, m2⟩
  · have h13 : 1 ≤ m ∧ m ≤ 3 := by simpa using hc
    have e1 := allW_ok (m := 1) (by omega) (by omega)
    have e2 := allW_ok (m := 2) (by omega) (by omega)
    have e3 := allW_ok (m := 3) (by omega) (by omega)
    have k1 : 1 ≤ (allC (2 - 1)).length ∧ 1 ≤ (allC (4 - 1)).length ∧ 1 ≤ (allC (8 - 1)).length := by decide +kernel
    obtain rfl | rfl | rfl : m = 1 ∨ m = 2 ∨ m = 3 := by omega
    · show Calls _ _ _ _ (NewStr w (allW ((1 : Nat) : Int)))
      rw [e1]
      exact sAllWords1 _ rfl k1.1 (len_allC _ (by omega)) w
    · show Calls _ _ _ _ (NewStr w (allW ((2 : Nat) : Int)))
      rw [e2]
      exact sAllWords2 _ rfl k1.2.1 (len_allC _ (by omega)) w
    · show Calls _ _ _ _ (NewStr w (allW ((3 : Nat) : Int)))
      rw [e3]
      exact sAllWords3 _ rfl k1.2.2 (len_allC _ (by omega)) w

end Go.Proofs.Ythllbekoidogpaa
