/- FnProductOf returns true for every input, and leaves it as it was: no condition. -/
import Derived.Test.YthiiniahkfjgmaaFrameB
import Derived.Test.YthiiniahkfjgmaaProd
import Derived.Test.YthiiniahkfjgmaaDrawRow
import Derived.Deep.RegionHeld3
namespace Go.Proofs.Ythiiniahkfjgmaa
open Go.ChangeShapes Go.WideShapes Go.ChangeAt Go.RowKit Go.Deep
set_option linter.unusedVariables false


theorem row_litp {W : World} {xs : List Int} (cs : Array Value) (hc : cs = (xs.map (Value.int .i64)).toArray) : Row (W.alloc (.cells cs 3)) W.heap.size (W.heap.size + 1) (some ⟨W.heap.size, 0, none⟩) xs := fun j hj => by
  subst hc
  have e1 := heap_alloc_new W (.cells (xs.map (Value.int .i64)).toArray 3)
  exact ⟨W.heap.size, 0, rfl, Nat.le_refl _, by omega, by rw [cell_of_row _ _ _ _ _ _ e1]; simp [hj, el, List.getD]⟩
theorem pairp {T : List (List Int)} {a b : Int} (h : okT T = true) (a0 : 0 ≤ a) (a1 : a < T.length) (b0 : 0 ≤ b) (b1 : b < T.length) : prodT T [a, b] = mul T a b := by
  rw [prodT_ok h (by simp) (by simp [okRow]; omega)]; rfl
theorem el_left {xs ys : List Int} {j : Nat} (h : j < xs.length) : el (xs ++ ys) j = el xs j := by simp [el, List.getD, List.getElem?_append_left h]
theorem el_last {xs : List Int} {k : Int} : el (xs ++ [k]) xs.length = k := by simp [el, List.getD]
theorem pf_left {T : List (List Int)} {xs ys : List Int} : ∀ j, j < xs.length → pf T (xs ++ ys) j = pf T xs j
  | 0, h => el_left h
  | j + 1, h => by
    show mul T (pf T (xs ++ ys) j) (el (xs ++ ys) (j + 1)) = mul T (pf T xs j) (el xs (j + 1))
    rw [pf_left j (by omega), el_left h]
/-- A row whose product is told. -/
structure Told (T : List (List Int)) (xs : List Int) : Prop where
  ok : okT T = true
  ne : xs.length ≠ 0
  row : okRow T.length xs = true
theorem Told.snoc {T : List (List Int)} {xs : List Int} (h : Told T xs) {k : Int} (k0 : 0 ≤ k) (k1 : k < T.length) : prodT T (xs ++ [k]) = mul T (prodT T xs) k := by
  have hr : okRow T.length (xs ++ [k]) = true := by
    have := h.row
    unfold okRow at this ⊢
    rw [List.all_append, this]
    simp; omega
  have hl : (xs ++ [k]).length - 1 = (xs.length - 1) + 1 := by have := h.ne; simp; omega
  rw [prodT_ok h.ok (by simp) hr, prodT_ok h.ok h.ne h.row, hl]
  show mul T (pf T (xs ++ [k]) (xs.length - 1)) (el (xs ++ [k]) (xs.length - 1 + 1)) = _
  rw [pf_left _ (by have := h.ne; omega), show xs.length - 1 + 1 = xs.length from by have := h.ne; omega, el_last]
theorem Told.in_ {T : List (List Int)} {xs : List Int} (h : Told T xs) : 0 ≤ prodT T xs ∧ prodT T xs < T.length := by
  rw [prodT_ok h.ok h.ne h.row]
  exact pf_in (okT_iff.1 h.ok) (okRow_iff.1 h.row) _ (by have := h.ne; omega)
theorem Told.one {T : List (List Int)} {xs : List Int} (h : Told T xs) : prodT T (xs.take 1) = el xs 0 := by
  have hl : (xs.take 1).length = 1 := by have := h.ne; simp; omega
  have he : el (xs.take 1) 0 = el xs 0 := by
    have := h.ne
    cases xs with
    | nil => simp at this
    | cons a r => rfl
  have hr : okRow T.length (xs.take 1) = true := okRow_iff.2 fun j hj => by
    have hj0 : j = 0 := by omega
    subst hj0
    rw [he]; exact okRow_iff.1 h.row 0 (by have := h.ne; omega)
  rw [prodT_ok h.ok (by omega) hr, hl]
  exact he
theorem told_or (T : List (List Int)) (xs : List Int) : Told T xs ∨ prodT T xs = -1 := by
  cases h1 : okT T
  · exact .inr (prodT_not (.inl h1))
  · by_cases h2 : xs.length = 0
    · exact .inr (prodT_not (.inr (.inl h2)))
    · cases h3 : okRow T.length xs
      · exact .inr (prodT_not (.inr (.inr h3)))
      · exact .inl ⟨h1, h2, h3⟩
theorem Row.take1 {w : World} {lo hi : Nat} {A : Option Addr} {xs : List Int} (h : Row w lo hi A xs) : Row w lo hi A (xs.take 1) := fun j hj => by
  have hj0 : j = 0 ∧ 0 < xs.length := by simp at hj; omega
  obtain ⟨rfl, hx⟩ := hj0
  obtain ⟨b, o, e, h1, h2, hc⟩ := h 0 hx
  refine ⟨b, o, e, h1, h2, hc.trans ?_⟩
  cases xs with
  | nil => simp at hx
  | cons a r => rfl

/-- A drawn table and a drawn row. -/
def DrawnR (w : World) (e : Ending) (w' : World) : Prop := ∃ A c A2 c2 T xs, e = .returned (.tuple #[.slice A T.length c, .slice A2 xs.length c2]) ∧ Below w.heap.size w w' ∧ Mat w' w.heap.size w'.heap.size A T ∧ Row w' w.heap.size w'.heap.size A2 xs ∧ Small T ∧ xs.length ≤ 7 ∧ xs.length ≤ c2 ∧ c2 ≤ 9223372036854775807
set_option maxHeartbeats 1000000 in
theorem drawProductOf_any (A : Option Addr) (n c : Nat) (w : World) (h : Bytes w w.heap.size A n) (hc : n ≤ c) (hc2 : c ≤ 9223372036854775807) :
    Calls Try.prog 27 #[.slice A n c] w (DrawnR w) := by
  go_enter Try.func27, Try.ntmps27
  go_wp2_with fail
  refine (open_any A n c w h hc hc2).mono ?_
  rintro e w1 ⟨A1, n1, c1, rfl, b1, s1⟩
  go_wp2_with fail
  refine (table_st 12 s1 (by omega) (by omega) (by omega)).mono ?_
  rintro e w3 ⟨A3, c3, T, P3, rfl, hM, hS, s3, hP3, hT9⟩
  go_wp2_with fail
  refine (row_st T.length s3 (by omega) (by omega)).mono ?_
  rintro e w4 ⟨A4, c4, xs, rfl, hR, hx7, hxc, hxm, ⟨P4, s4, _⟩, o4⟩
  have hM4 := hM.keep (w' := w4) (fun q h1 h2 => o4.block q h2 (.inr (by have := s3.lt; omega)))
  have fin : DrawnR w (.returned (.tuple #[.slice A3 T.length c3, .slice A4 xs.length c4])) w4 :=
    ⟨A3, c3, A4, c4, T, xs, rfl, b1.trans (s4.only.below (Nat.le_refl _) b1.size), hM4.mono b1.size o4.size, hR.mono b1.size (Nat.le_refl _), hS, hx7, hxc, hxm⟩
  have FIN := hide fin
  clear fin
  go_wp2
  go_ret2
  exact FIN.out

set_option maxHeartbeats 2000000 in
theorem fnProductOf_walk (A : Option Addr) (n c : Nat) (w : World) (h : Bytes w w.heap.size A n) (hc : n ≤ c) (hc2 : c ≤ 9223372036854775807) :
    Calls Try.prog 5 #[.slice A n c] w fun e w' => e = .returned (.bool true) ∧ Below w.heap.size w w' := by
  by_cases hn : (1048576 : Int) < (n : Int)
  · go_enter Try.func5, Try.ntmps5
    go_wp2
    go_ret
    exact ⟨rfl, Below.refl _ _⟩
  · have B0 := Below.refl w.heap.size w
    go_enter Try.func5, Try.ntmps5
    go_wp2_with fail
    refine (drawProductOf_any A n c w h hc hc2).mono ?_
    rintro e w1 ⟨A1, c1, A2, c2, T, xs, rfl, b1, mt, mr, hs0, hx7, hxc, hxm⟩
    have z1 := b1.size
    have B1 : Below w.heap.size w w1 := B0.trans (b1.mono (by omega))
    go_wp2_with fail
    refine (iProductOf_any _ _ _ _ _ _ _ _ _ _ _ mt (by omega) hs0 mr (by omega) (by omega) hxc hxm).mono ?_
    rintro e w2 ⟨rfl, b2⟩
    have z2 := b2.size
    have B2 : Below w.heap.size w w2 := B1.trans (b2.mono (by omega))
    replace mt := mt.below b2 (by omega)
    replace mr := mr.below b2 (by omega)
    go_wp2_with fail
    refine (sProductOf_any _ _ _ _ _ _ _ _ _ _ _ mt hs0 mr (by omega)).mono ?_
    rintro e w3 ⟨rfl, q3⟩
    have b3 := q3.below w2.heap.size
    have z3 := b3.size
    have B3 : Below w.heap.size w w3 := B2.trans (b3.mono (by omega))
    replace mt := mt.below b3 (by omega)
    replace mr := mr.below b3 (by omega)
    rcases told_or T xs with ht | hneg
    · have hin := ht.in_
      obtain ⟨p0, p1⟩ := hin
      have hne := ht.ne
      have k9 := (okT_iff.1 ht.ok).hi
      have W0 := Below.refl w3.heap.size w3
      have zN : w1.heap.size ≤ w3.heap.size := by omega
      go_wp2
      go_loopg [6] T.length (fun g i wr => ∃ p : Nat, p ≤ T.length ∧ g = T.length - p ∧ i = .int .i64 p ∧ Below w3.heap.size w3 wr)
      case atStart => exact ⟨0, Nat.zero_le _, rfl, rfl, W0⟩
      case round =>
        obtain ⟨p, hp, rfl, rfl, hB⟩ := hrel
        clear W0
        by_cases hlt : p < T.length
        · have hpi : (p : Int) < (T.length : Int) := by omega
          have hp0 : (0 : Int) ≤ (p : Int) := by omega
          have HS := hide (ht.snoc hp0 hpi)
          have HP := hide (pairp ht.ok p0 p1 hp0 hpi)
          have d1 := (Below.refl wr.heap.size wr).alloc (Nat.le_refl _) (.cells #[] 3)
          have D1 := hB.trans (d1.mono hB.size)
          have r0 := ARow.made (w := wr) (Nat.le_refl _)
          have hz1 := D1.size
          have src := mr.below D1 (by omega)
          have hs1 := d1.size
          have hx1 : 1 ≤ xs.length := by omega
          have hx2 : xs.length ≤ 1048576 := by omega
          have hl2 : ([] ++ xs : List Int).length ≤ 1048576 := by simpa using hx2
          go_wp2_with (first
            | (at_builtin; refine wp_app_src rfl (.tmp 37) (.tmp 38) rfl wr.heap.size _ _ _ [] xs _ _ rfl rfl r0 src hx1 hx2 (by simp) hs1 ?_; intro v5 w5 own5 hg5; have d5 := r0.belowOf hg5 (Nat.le_refl _) hs1; have hs5 : wr.heap.size ≤ w5.heap.size := Nat.le_trans hs1 d5.size)
            | (at_builtin; refine wp_app_int rfl (.tmp 39) (.tmp 41) rfl wr.heap.size _ _ _ _ rfl rfl own5 hl2 hs5 ?_; intro v6 w6 own6 hg6; have d6 := own5.belowOf hg6 (Nat.le_refl _) hs5))
          obtain ⟨A6, c6, rfl, hc61, hc62, hR6⟩ := own6.val
          have D6 := D1.trans ((d5.trans d6).mono hB.size)
          have hz6 := D6.size
          have len6 : ([] ++ xs ++ [(p : Int)] : List Int).length ≤ 1048576 := by simp; omega
          refine (iProductOf_any _ _ _ _ _ _ _ _ T ([] ++ xs ++ [(p : Int)]) _ (mt.below D6 (by omega)) (by omega) hs0 hR6 (Nat.le_refl _) len6 hc61 hc62).mono ?_
          rw [List.nil_append, HS.out]
          rintro e w7 ⟨rfl, d7⟩
          have D7 := D6.trans (d7.mono hz6)
          have hz7 := D7.size
          go_wp2_with fail
          have d8 := (Below.refl w7.heap.size w7).alloc (Nat.le_refl _) (.cells #[.int .i64 (prodT T xs), .int .i64 (p : Nat)] 3)
          have D8 := D7.trans (d8.mono hz7)
          have hz8 := D8.size
          have hzz : (w7.alloc (.cells #[.int .i64 (prodT T xs), .int .i64 (p : Nat)] 3)).heap.size = w7.heap.size + 1 := by simp
          refine (iProductOf_any _ _ _ 2 _ _ _ _ T [prodT T xs, (p : Int)] _ (mt.below D8 (by omega)) (by omega) hs0 (row_litp (W := w7) #[.int .i64 (prodT T xs), .int .i64 (p : Nat)] rfl) (by omega) (by simp) (by simp) (by omega)).mono ?_
          rw [HP.out]
          rintro e w9 ⟨rfl, d9⟩
          have D9 := D8.trans (d9.mono hz8)
          clear hzz
          go_wp2
          go_roundg (T.length - (p + 1))
          case measure => go_light; omega
          case rel => go_light; exact ⟨p + 1, by omega, rfl, by go_num, D9⟩
        · obtain rfl : T.length = p := by omega
          have H1 := hide ht.one
          have hzr := hB.size
          have mt' := mt.below hB (by omega)
          have mr' := mr.below hB (by omega)
          obtain ⟨b, o, rfl, _, hbh, hc0⟩ := mr' 0 (by omega)
          have hc00 : wr.cell? ⟨b, o, none⟩ = some (.int .i64 (el xs 0)) := hc0
          clear hc0
          have hl1 : (xs.take 1).length = 1 := by simp; omega
          have hx0i : (0 : Int) < (xs.length : Int) := by omega
          have hx0n : 0 < xs.length := by omega
          have hc2i : (1 : Int) ≤ (c2 : Int) := by omega
          have hcall : ∀ W : World, Below wr.heap.size wr W → Calls Try.prog 26 #[.slice A1 T.length c1, .slice (some ⟨b, o, none⟩) 1 c2] W fun e w' => e = .returned (.int .i64 (el xs 0)) ∧ Below W.heap.size W w' := fun W hW => by
            have := iProductOf_any A1 (some ⟨b, o, none⟩) c1 c2 _ _ _ _ T (xs.take 1) W (mt'.below hW (by omega)) (by have := hW.size; omega) hs0 ((mr'.take1).below hW (by omega)) (by have := hW.size; omega) (by omega) (by omega) hxm
            rw [hl1, H1.out] at this
            exact this
          have HC := hide hcall
          clear hcall
          go_wp2_with fail
          go_region_held3 (fun W => W.cell? ⟨b, o, none⟩ = some (.int .i64 (el xs 0)) ∧ Below wr.heap.size wr W)
            (first
              | exact ⟨hc00, (Below.refl _ _).drew⟩
              | (go_split_ands
                 exact ⟨(Below.cell (p := ⟨b, o, none⟩) (B := wr.heap.size) (w := wr) (Below.trans (by assumption) (Below.mono (by assumption) (Below.size (by assumption)))) (by show b < _; omega)).trans hc00, Below.trans (by assumption) (Below.mono (by assumption) (Below.size (by assumption)))⟩))
            (first
              | (go_at_call 26
                 refine (HC.out _ ?_).mono ?_
                 · go_split_ands
                   assumption
                 rintro e wj ⟨rfl, hbj⟩))
          rename_i hHeld
          obtain ⟨_, hBf⟩ := hHeld
          go_wp2
          go_ret
          exact ⟨rfl, (B3.trans (hB.mono B3.size)).trans (hBf.mono (Nat.le_trans B3.size hB.size))⟩
    · go_wp2_with fail
      refine (alive_any _).mono ?_
      rintro e w8 ⟨rfl, b8⟩
      go_wp2
      go_ret
      exact ⟨rfl, B3.trans (b8.mono B3.size)⟩


set_option maxRecDepth 100000 in
theorem lifted_FnProductOf (os : Os) (started : os.Started) (H : Type) (enc : TypeId × Value → H) :
    ReturnsInHanded {} Try.checked os 5 .any (Rows.fnProductOfSpec.pre6 enc Try.prog Try.f5 Rows.fnProductOfRow.domain false) (Rows.fnProductOfSpec.post enc Try.prog Try.f5 false true false false) := by
  refine returnsInHanded_of_change (C := Try.checked) own started (by kernel_rfl) Try.func5
    (ChangeSpec.witness6 (enc := enc) (C := Try.checked) false ⟨#[], #[.slice none 0 0], []⟩ 8 (by kernel_rfl) (by kernel_rfl) (by kernel_rfl) (by kernel_rfl)) ?_
  intro W base args ds gs before hval0 hW hcnd _
  have hval : ∀ (j : Nat) t v, Try.f5.params[j]? = some t → args[j]? = some v → Value.okWide Try.prog W .any base t v := hval0
  have hW' := hW
  obtain ⟨p, q, hA0, hV, rfl, hfz, hnd⟩ := hW
  have hA : DataW.TrodAll enc Try.prog W 0 (fun _ => true) true Try.f5.params.toList args.toList ds p := hA0
  rw [Try.params5] at hA hval
  obtain ⟨v0, vs0, d0, ds0, p0, q0, hargs, rfl, rfl, h0, r0⟩ := trodAll_cons hA
  obtain ⟨rfl, rfl, rfl⟩ := trodAll_nil r0
  obtain rfl : args = #[v0] := by cases args; simp_all
  obtain ⟨rfl, rfl⟩ := trodVars_none hV
  obtain ⟨a0, len0, cap0, rfl⟩ := okWide_slice Try.underlying22 (hval 0 22 v0 rfl rfl)
  have k0 := h0
  have lt0 : ∀ x ∈ p0, x.block < W.heap.size := by obtain ⟨m, hm⟩ := k0; exact DataW.trod_lt m _ _ _ hm
  obtain ⟨fuel0, hf0⟩ := h0
  obtain ⟨hl0, hS0, hT0⟩ := open_bytes hf0
  clear hA0 hval0
  refine (fnProductOf_walk a0 len0 cap0 W hT0 hl0 hS0).mono fun e W' ⟨he, bel⟩ => ?_
  subst he
  exact ⟨_, rfl, _, _, _, [], _, [], hW', trodAll_mk1 (shut_bool Try.underlying4 _), (trodAll_cons_mk (Below.trod laidOut (by kernel_rfl) (of_decide_eq_true (by kernel_rfl)) k0 bel lt0) trodAll_mk0), rfl, bel.frame _, fun h => by cases h⟩

theorem fnProductOf_holds : Rows.FnProductOfSaid :=
  OpenClaim.holds_of_wide 5 Try.f5 rfl rfl rfl rfl rfl rfl rfl ⟨rfl, rfl, rfl, rfl, rfl⟩ rfl rfl rfl rfl rfl (by kernel_rfl) Try.func5 (by kernel_rfl)
    (of_decide_eq_true (by kernel_rfl)) (by unfold Func.isWrapper; first | (rw [if_pos (by decide +kernel)]; kernel_rfl) | (rw [if_neg (by decide +kernel)]; exact ⟨rfl, rfl⟩))
    (fun os started H enc _ => lifted_FnProductOf os started H enc)

#print axioms fnProductOf_holds
end Go.Proofs.Ythiiniahkfjgmaa
