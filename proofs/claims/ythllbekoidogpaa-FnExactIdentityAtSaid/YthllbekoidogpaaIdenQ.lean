/-  -/
import Derived.Test.YthllbekoidogpaaSapart
import Derived.Test.YthllbekoidogpaaValP
import Derived.Test.YthllbekoidogpaaPureX
import Derived.Test.YthllbekoidogpaaPartP
import Derived.Test.YthllbekoidogpaaRectP
import Derived.Test.YthllbekoidogpaaLevQ
import Derived.Test.YthllbekoidogpaaFreeQ
namespace Go.Proofs.Ythllbekoidogpaa
set_option linter.unusedVariables false

/-- Whether an identity holds. -/
noncomputable def hldW (T : List (List Int)) (u v : List UInt8) : Bool := canA T u v && (apart T u v).isNone
/-- Both words have the same value at all things. -/
def Hld (T : List (List Int)) (u v : List UInt8) : Prop := ∀ a b c : Int, Th T a → Th T b → Th T c → vw T (ltf a b c) u = vw T (ltf a b c) v
section
variable {T U : List (List Int)} {u v : List UInt8} {f : UInt8 → Int}
theorem in_of_th {x : Int} (h : Th T x) : inT T x = true := inT_iff.2 ⟨x.toNat, by have := h.1; omega, by have := h.1; have := h.2; omega⟩
theorem canA_iff : canA T u v = true ↔ okT T = true ∧ okW u = true ∧ okW v = true := by
  unfold canA
  rw [Bool.and_eq_true, Bool.and_eq_true]
theorem valW_th {a b c : Int} (hk : okT T = true) (hu : okW u = true) (ha : Th T a) (hb : Th T b) (hc : Th T c) : valW T u a b c = vw T (ltf a b c) u :=
  (valW_can (by unfold canV; rw [hk, hu, in_of_th ha, in_of_th hb, in_of_th hc]; rfl)).1
theorem hld_iff : hldW T u v = true ↔ canA T u v = true ∧ Hld T u v := by
  unfold hldW
  rw [Bool.and_eq_true]
  refine and_congr_right fun hc => ?_
  obtain ⟨hk, hu, hv⟩ := canA_iff.1 hc
  have hT := okT_iff.1 hk
  have hlo := hT.lo
  constructor
  · intro hn a b c ha hb hcc
    have hnone : apart T u v = none := by simpa using hn
    obtain ⟨x, rfl⟩ : ∃ x : Nat, a = x := ⟨a.toNat, by have := ha.1; omega⟩
    obtain ⟨y, rfl⟩ : ∃ x : Nat, b = x := ⟨b.toNat, by have := hb.1; omega⟩
    obtain ⟨z, rfl⟩ : ∃ x : Nat, c = x := ⟨c.toNat, by have := hcc.1; omega⟩
    have hx : x < T.length := by have := ha.2; omega
    have hy : y < T.length := by have := hb.2; omega
    have hz : z < T.length := by have := hcc.2; omega
    obtain ⟨n, hn'⟩ : ∃ n, n = T.length := ⟨_, rfl⟩
    have hlt : (x * n + y) * n + z < n * n * n := by
      have h1 : x * n + y + 1 ≤ n * n := by
        have := Nat.mul_le_mul_right n (show x + 1 ≤ n by omega)
        rw [Nat.add_mul, Nat.one_mul] at this
        omega
      have h2 := Nat.mul_le_mul_right n h1
      rw [Nat.add_mul, Nat.one_mul] at h2
      omega
    have hd : difA T u v ((x * n + y) * n + z) = false := by
      have := hnone
      unfold apart at this
      rw [if_pos hc, List.find?_eq_none] at this
      have := this _ (List.mem_range.2 (show (x * n + y) * n + z < T.length * T.length * T.length by rw [← hn']; exact hlt))
      simpa using this
    have q1 : ((((x * n + y) * n + z : Nat) : Int) / (n : Int)) = ((x * n + y : Nat) : Int) := by
      rw [← Int.natCast_ediv]
      congr 1
      rw [Nat.add_comm, Nat.add_mul_div_right _ _ (by omega), Nat.div_eq_of_lt (by omega), Nat.zero_add]
    have q2 : (((x * n + y : Nat) : Int) / (n : Int)) = (x : Int) := by
      rw [← Int.natCast_ediv]
      congr 1
      rw [Nat.add_comm, Nat.add_mul_div_right _ _ (by omega), Nat.div_eq_of_lt (by omega), Nat.zero_add]
    have q3 : (((x * n + y : Nat) : Int) % (n : Int)) = (y : Int) := by
      rw [← Int.natCast_emod]
      congr 1
      rw [Nat.add_comm, Nat.add_mul_mod_self_right, Nat.mod_eq_of_lt (by omega)]
    have q4 : ((((x * n + y) * n + z : Nat) : Int) % (n : Int)) = (z : Int) := by
      rw [← Int.natCast_emod]
      congr 1
      rw [Nat.add_comm, Nat.add_mul_mod_self_right, Nat.mod_eq_of_lt (by omega)]
    unfold difA at hd
    rw [← hn', q1, q2, q3, q4] at hd
    have : valW T u x y z = valW T v x y z := by simpa using hd
    rwa [valW_th hk hu ha hb hcc, valW_th hk hv ha hb hcc] at this
  · intro h
    have : apart T u v = none := apart_all hc fun j hj => by
      obtain ⟨n, hn'⟩ : ∃ n, n = T.length := ⟨_, rfl⟩
      have hth : ∀ q : Int, 0 ≤ q → q < (T.length : Int) → Th T q := fun q h0 h1 => ⟨h0, h1⟩
      have hpos : (0 : Int) < (T.length : Int) := by omega
      have e1 : Th T ((j : Int) % (T.length : Int)) := hth _ (Int.emod_nonneg _ (by omega)) (Int.emod_lt_of_pos _ hpos)
      have e2 : Th T ((j : Int) / (T.length : Int) % (T.length : Int)) := hth _ (Int.emod_nonneg _ (by omega)) (Int.emod_lt_of_pos _ hpos)
      have e3 : Th T ((j : Int) / (T.length : Int) / (T.length : Int)) := hth _ (Int.ediv_nonneg (Int.ediv_nonneg (by omega) (by omega)) (by omega)) (by
        rw [Int.ediv_ediv_of_nonneg (by omega)]
        refine Int.ediv_lt_of_lt_mul (Int.mul_pos hpos hpos) ?_
        rw [← Int.natCast_mul, ← Int.natCast_mul]
        have : T.length * T.length * T.length = T.length * (T.length * T.length) := Nat.mul_assoc _ _ _
        omega)
      unfold difA
      rw [valW_th hk hu e3 e2 e1, valW_th hk hv e3 e2 e1, h _ _ _ e3 e2 e1]
      simp
    rw [this]; rfl
/-- A map that keeps products leads values to values. -/
theorem vw_hom {S : List (List Int)} (kS : IsT S) (φ : Int → Int) (hm : ∀ x y, Th S x → Th S y → φ (mul S x y) = mul T (φ x) (φ y)) (hf : Sta S f) : ∀ {u : List UInt8}, u ≠ [] → φ (vw S f u) = vw T (fun y => φ (f y)) u := by
  intro u hu
  cases u with
  | nil => exact (hu rfl).elim
  | cons a r =>
    unfold vw
    have key : ∀ (r : List UInt8) (c : Int), Th S c → φ (pr S (c :: r.map f)) = pr T (φ c :: r.map fun y => φ (f y)) := by
      intro r
      induction r with
      | nil => intro c _; rfl
      | cons b r ih =>
        intro c hc
        rw [List.map_cons, List.map_cons, pr_cons2, pr_cons2, ← hm c (f b) hc (hf b)]
        exact ih _ (kS.mul hc.1 hc.2 (hf b).1 (hf b).2)
    rw [List.map_cons, List.map_cons]
    exact key r (f a) (hf a)
theorem ltf_comp (φ : Int → Int) (a b c : Int) : (fun y => φ (ltf a b c y)) = ltf (φ a) (φ b) (φ c) := by
  funext y
  unfold ltf
  split
  · rfl
  · split <;> rfl
theorem sta_th {a b c : Int} (ha : Th T a) (hb : Th T b) (hc : Th T c) : Sta T (ltf a b c) := sta_ltf (in_of_th ha) (in_of_th hb) (in_of_th hc)
/-- What holds holds where a one-to-one map that keeps products comes from. -/
theorem hld_inj {S : List (List Int)} (kS : IsT S) (φ : Int → Int) (hth : ∀ x, Th S x → Th T (φ x)) (hm : ∀ x y, Th S x → Th S y → φ (mul S x y) = mul T (φ x) (φ y)) (hinj : ∀ x y, Th S x → Th S y → φ x = φ y → x = y)
    (hu : u ≠ []) (hv : v ≠ []) (h : Hld T u v) : Hld S u v := fun a b c ha hb hc => by
  have s := sta_th ha hb hc
  refine hinj _ _ (vw_th kS s hu) (vw_th kS s hv) ?_
  rw [vw_hom kS φ hm s hu, vw_hom kS φ hm s hv, ltf_comp]
  exact h _ _ _ (hth _ ha) (hth _ hb) (hth _ hc)
/-- .. and in parts. -/
theorem hld_part {n : Nat} (h : IsP T n) (hu : u ≠ []) (hv : v ≠ []) (hh : Hld T u v) : Hld (partT T n) u v := by
  have hl := len_part h
  have nat : ∀ x, Th (partT T n) x → ∃ a : Nat, x = a ∧ a < (thk n 9).length := fun x hx => ⟨x.toNat, by have := hx.1; omega, by have := hx.1; have := hx.2; omega⟩
  have key : ∀ a b : Nat, a < (thk n 9).length → b < (thk n 9).length → el (thk n 9) (mul (partT T n) a b).toNat = mul T (el (thk n 9) a) (el (thk n 9) b) := fun a b ha hb => by
    obtain ⟨x, y, z, ex, ey, ez, hx, hy, hz, x1, y1, z1, e, c1, _⟩ := h.prod ha hb
    rw [mul_part h ha hb, e, Int.toNat_natCast, ex, ey, ez]
    exact el_cnt hz 9 (by have := (okT_iff.1 h.ok).hi; omega)
  refine hld_inj (isT_part h) (fun x => el (thk n 9) x.toNat) (fun x hx => ?_) (fun x y hx hy => ?_) (fun x y hx hy e => ?_) hu hv hh
  · obtain ⟨a, rfl, ha⟩ := nat x hx
    obtain ⟨x, e, _, x1⟩ := h.thing ha
    show Th T (el (thk n 9) ((a : Int)).toNat)
    rw [Int.toNat_natCast, e]
    exact ⟨by omega, by omega⟩
  · obtain ⟨a, rfl, ha⟩ := nat x hx
    obtain ⟨b, rfl, hb⟩ := nat y hy
    show el (thk n 9) _ = mul T (el (thk n 9) ((a : Int)).toNat) (el (thk n 9) ((b : Int)).toNat)
    rw [Int.toNat_natCast, Int.toNat_natCast]
    exact key a b ha hb
  · obtain ⟨a, rfl, ha⟩ := nat x hx
    obtain ⟨b, rfl, hb⟩ := nat y hy
    have e' : el (thk n 9) a = el (thk n 9) b := by simpa using e
    obtain ⟨x, ex, _, _⟩ := thk_mem ha
    have ey : el (thk n 9) b = (x : Int) := e'.symm.trans ex
    have q1 := cnt_el ha ex
    have q2 := cnt_el hb ey
    omega
/-- What holds holds where a map that keeps products leads, if all things are reached. -/
theorem hld_sur {S : List (List Int)} (kS : IsT S) (φ : Int → Int) (hm : ∀ x y, Th S x → Th S y → φ (mul S x y) = mul T (φ x) (φ y)) (hs : ∀ y, Th T y → ∃ x, Th S x ∧ φ x = y) (hu : u ≠ []) (hv : v ≠ []) (h : Hld S u v) : Hld T u v := fun a b c ha hb hc => by
  obtain ⟨a', ha', rfl⟩ := hs a ha
  obtain ⟨b', hb', rfl⟩ := hs b hb
  obtain ⟨c', hc', rfl⟩ := hs c hc
  have s := sta_th ha' hb' hc'
  have e1 := vw_hom kS φ hm s hu
  have e2 := vw_hom kS φ hm s hv
  rw [ltf_comp] at e1 e2
  rw [← e1, ← e2, h _ _ _ ha' hb' hc']
/-- .. turned round in the table turned over. -/
theorem vw_turn (g : IsG T) (hf : Sta T f) : ∀ {u : List UInt8}, u ≠ [] → vw (turnT T) f u.reverse = vw T f u
  | [], h => (h rfl).elim
  | a :: r, _ => by
    have hk := okT_iff.2 g.tab
    have hl := len_turnT hk
    have hft : Sta (turnT T) f := fun y => by have := hf y; exact ⟨this.1, by rw [hl]; exact this.2⟩
    by_cases hr : r = []
    · subst hr; rfl
    · have ih := vw_turn g hf hr
      have hrr : r.reverse ≠ [] := by simpa using hr
      have hv := vw_th g.tab hf hr
      have e1 : vw T f (a :: r) = mul T (f a) (vw T f r) := vw_app g hf (u := [a]) (by simp) hr
      have e2 : vw (turnT T) f (r.reverse ++ [a]) = mul (turnT T) (vw (turnT T) f r.reverse) (f a) := vw_app (isG_turnT g) hft hrr (by simp)
      rw [List.reverse_cons, e2, ih, e1]
      exact mul_turnT hk hv.1 hv.2 (hf a).1 (hf a).2
theorem hld_turn (g : IsG T) (hu : u ≠ []) (hv : v ≠ []) : Hld (turnT T) u.reverse v.reverse ↔ Hld T u v := by
  have hl := len_turnT (okT_iff.2 g.tab)
  have hth : ∀ x, Th (turnT T) x ↔ Th T x := fun x => by unfold Th; rw [hl]
  constructor
  · intro h a b c ha hb hc
    have s := sta_th ha hb hc
    rw [← vw_turn g s hu, ← vw_turn g s hv]
    exact h _ _ _ ((hth _).2 ha) ((hth _).2 hb) ((hth _).2 hc)
  · intro h a b c ha hb hc
    have s := sta_th ((hth _).1 ha) ((hth _).1 hb) ((hth _).1 hc)
    rw [vw_turn g s hu, vw_turn g s hv]
    exact h _ _ _ ((hth _).1 ha) ((hth _).1 hb) ((hth _).1 hc)
end
/-- The nine identities with names. -/
def idU (k : Nat) : List UInt8 := ([[97, 97], [97, 98], [97, 98], [97, 98], [97, 98, 97], [97, 98, 97], [97, 98, 97], [97, 98, 99, 97], [97, 98, 97, 99, 97]] : List (List UInt8)).getD k []
def idV (k : Nat) : List UInt8 := ([[97], [98, 97], [97], [98], [97], [97, 98], [98, 97], [97, 99, 98, 97], [97, 98, 99, 97]] : List (List UInt8)).getD k []
section
variable {T : List (List Int)}
theorem all3 {p : Int → Int → Int → Prop} (h : ∀ a b c, Th T a → Th T b → Th T c → p a b c) : ∀ a b c, Th T a → Th T b → Th T c → p a b c := h
theorem hld0 : Hld T (idU 0) (idV 0) ↔ ∀ x, Th T x → mul T x x = x := ⟨fun h x hx => h x x x hx hx hx, fun h a b c ha _ _ => h a ha⟩
theorem hld1 : Hld T (idU 1) (idV 1) ↔ ∀ x y, Th T x → Th T y → mul T x y = mul T y x := ⟨fun h x y hx hy => h x y x hx hy hx, fun h a b c ha hb _ => h a b ha hb⟩
theorem hld2 : Hld T (idU 2) (idV 2) ↔ ∀ x y, Th T x → Th T y → mul T x y = x := ⟨fun h x y hx hy => h x y x hx hy hx, fun h a b c ha hb _ => h a b ha hb⟩
theorem hld3 : Hld T (idU 3) (idV 3) ↔ ∀ x y, Th T x → Th T y → mul T x y = y := ⟨fun h x y hx hy => h x y x hx hy hx, fun h a b c ha hb _ => h a b ha hb⟩
theorem hld4 : Hld T (idU 4) (idV 4) ↔ ∀ x y, Th T x → Th T y → mul T (mul T x y) x = x := ⟨fun h x y hx hy => h x y x hx hy hx, fun h a b c ha hb _ => h a b ha hb⟩
theorem hld5 : Hld T (idU 5) (idV 5) ↔ ∀ x y, Th T x → Th T y → mul T (mul T x y) x = mul T x y := ⟨fun h x y hx hy => h x y x hx hy hx, fun h a b c ha hb _ => h a b ha hb⟩
theorem hld6 : Hld T (idU 6) (idV 6) ↔ ∀ x y, Th T x → Th T y → mul T (mul T x y) x = mul T y x := ⟨fun h x y hx hy => h x y x hx hy hx, fun h a b c ha hb _ => h a b ha hb⟩
theorem hld7 : Hld T (idU 7) (idV 7) ↔ ∀ x y z, Th T x → Th T y → Th T z → mul T (mul T (mul T x y) z) x = mul T (mul T (mul T x z) y) x := ⟨fun h x y z hx hy hz => h x y z hx hy hz, fun h a b c ha hb hc => h a b c ha hb hc⟩
theorem hld8 : Hld T (idU 8) (idV 8) ↔ ∀ x y z, Th T x → Th T y → Th T z → mul T (mul T (mul T (mul T x y) x) z) x = mul T (mul T (mul T x y) z) x := ⟨fun h x y z hx hy hz => h x y z hx hy hz, fun h a b c ha hb hc => h a b c ha hb hc⟩
/-- Kinds of bands. -/
theorem kind0 (g : IsG T) : Hld T (idU 0) (idV 0) ↔ IsB T := hld0.trans ⟨fun h => ⟨g, fun x x0 x1 => h x ⟨x0, x1⟩⟩, fun b x hx => b.sq x hx.1 hx.2⟩
theorem kind1 (b : IsB T) : Hld T (idU 1) (idV 1) ↔ meetT T = true := hld1.trans (by rw [meetT_iff]; exact ⟨fun h => ⟨b, fun x y x0 x1 y0 y1 => h x y ⟨x0, x1⟩ ⟨y0, y1⟩⟩, fun h x y hx hy => h.2 x y hx.1 hx.2 hy.1 hy.2⟩)
theorem kind2 (b : IsB T) : Hld T (idU 2) (idV 2) ↔ firstT T = true := hld2.trans (by rw [firstT_iff]; exact ⟨fun h => ⟨b, fun x y x0 x1 y0 y1 => h x y ⟨x0, x1⟩ ⟨y0, y1⟩⟩, fun h x y hx hy => h.2 x y hx.1 hx.2 hy.1 hy.2⟩)
theorem kind4 (b : IsB T) : Hld T (idU 4) (idV 4) ↔ rectT T = true := hld4.trans (by rw [rectT_iff]; exact ⟨fun h => ⟨b, fun x y x0 x1 y0 y1 => h x y ⟨x0, x1⟩ ⟨y0, y1⟩⟩, fun h x y hx hy => h.2 x y hx.1 hx.2 hy.1 hy.2⟩)
theorem kind5 (b : IsB T) : Hld T (idU 5) (idV 5) ↔ leftT T = true := hld5.trans (by rw [leftT_iff]; exact ⟨fun h => ⟨b, fun x y x0 x1 y0 y1 => h x y ⟨x0, x1⟩ ⟨y0, y1⟩⟩, fun h x y hx hy => h.2 x y hx.1 hx.2 hy.1 hy.2⟩)
theorem kind6 (b : IsB T) : Hld T (idU 6) (idV 6) ↔ rightT T = true := by
  have hk := okT_iff.2 b.g.tab
  have hl := len_turnT hk
  have m : ∀ {x y : Int}, Th T x → Th T y → mul (turnT T) x y = mul T y x := fun hx hy => mul_turnT hk hx.1 hx.2 hy.1 hy.2
  have th : ∀ {x y : Int}, Th T x → Th T y → Th T (mul T x y) := fun hx hy => b.g.tab.mul hx.1 hx.2 hy.1 hy.2
  have ass : ∀ {x y z : Int}, Th T x → Th T y → Th T z → mul T x (mul T y z) = mul T (mul T x y) z := fun hx hy hz => b.g.grp _ _ _ hx.1 hx.2 hy.1 hy.2 hz.1 hz.2
  rw [hld6]
  unfold rightT
  rw [leftT_iff]
  constructor
  · intro h
    refine ⟨isB_turn b, fun x y x0 x1 y0 y1 => ?_⟩
    rw [hl] at x1 y1
    have hx : Th T x := ⟨x0, x1⟩
    have hy : Th T y := ⟨y0, y1⟩
    rw [m hx hy, m (th hy hx) hx, ass hx hy hx]
    exact h x y hx hy
  · rintro ⟨_, h⟩ x y hx hy
    have := h x y hx.1 (by rw [hl]; exact hx.2) hy.1 (by rw [hl]; exact hy.2)
    rwa [m hx hy, m (th hy hx) hx, ass hx hy hx] at this
/-- Kinds follow of each other. -/
theorem mid7 (b : IsB T) (h : Hld T (idU 1) (idV 1) ∨ Hld T (idU 2) (idV 2) ∨ Hld T (idU 3) (idV 3) ∨ Hld T (idU 4) (idV 4)) : Hld T (idU 7) (idV 7) := by
  have th : ∀ {x y : Int}, Th T x → Th T y → Th T (mul T x y) := fun hx hy => b.g.tab.mul hx.1 hx.2 hy.1 hy.2
  have ass : ∀ {x y z : Int}, Th T x → Th T y → Th T z → mul T x (mul T y z) = mul T (mul T x y) z := fun hx hy hz => b.g.grp _ _ _ hx.1 hx.2 hy.1 hy.2 hz.1 hz.2
  rw [hld7]
  intro x y z hx hy hz
  rcases h with h | h | h | h
  · rw [hld1] at h
    rw [← ass hx hy hz, ← ass hx hz hy, h y z hy hz]
  · rw [hld2] at h
    rw [h _ _ (th (th hx hy) hz) hx, h _ _ (th hx hy) hz, h x y hx hy, h _ _ (th (th hx hz) hy) hx, h _ _ (th hx hz) hy, h x z hx hz]
  · rw [hld3] at h
    rw [h _ _ (th (th hx hy) hz) hx, h _ _ (th (th hx hz) hy) hx]
  · rw [hld4] at h
    rw [← ass hx hy hz, ← ass hx hz hy, h _ _ hx (th hy hz), h _ _ hx (th hz hy)]
theorem side8 (b : IsB T) (h : Hld T (idU 5) (idV 5) ∨ Hld T (idU 6) (idV 6) ∨ Hld T (idU 7) (idV 7)) : Hld T (idU 8) (idV 8) := by
  have th : ∀ {x y : Int}, Th T x → Th T y → Th T (mul T x y) := fun hx hy => b.g.tab.mul hx.1 hx.2 hy.1 hy.2
  have ass : ∀ {x y z : Int}, Th T x → Th T y → Th T z → mul T x (mul T y z) = mul T (mul T x y) z := fun hx hy hz => b.g.grp _ _ _ hx.1 hx.2 hy.1 hy.2 hz.1 hz.2
  have sq : ∀ {x : Int}, Th T x → mul T x x = x := fun hx => b.sq _ hx.1 hx.2
  rw [hld8]
  intro x y z hx hy hz
  rcases h with h | h | h
  · rw [hld5] at h
    rw [h x y hx hy]
  · rw [hld6] at h
    -- both are y z x
    have e1 : mul T (mul T (mul T y x) z) x = mul T (mul T y z) x := by
      rw [← ass hy hx hz, ← ass hy (th hx hz) hx, h x z hx hz, ass hy hz hx]
    have e2 : mul T (mul T (mul T x y) z) x = mul T (mul T y z) x := by
      rw [← ass hx hy hz, h x _ hx (th hy hz)]
    rw [h x y hx hy, e1, e2]
  · rw [hld7] at h
    have e1 : mul T (mul T (mul T (mul T x y) x) z) x = mul T (mul T (mul T x (mul T y x)) z) x := by rw [ass hx hy hx]
    rw [e1, h x (mul T y x) z hx (th hy hx) hz]
    have e2 : mul T (mul T (mul T x z) (mul T y x)) x = mul T (mul T (mul T x z) y) x := by
      rw [ass (th hx hz) hy hx, ← ass (th (th hx hz) hy) hx hx, sq hx]
    rw [e2, h x z y hx hz hy]
end
end Go.Proofs.Ythllbekoidogpaa

namespace Go.Proofs.Ythllbekoidogpaa
set_option linter.unusedVariables false

section
variable {T U : List (List Int)} {u v : List UInt8}
/-- Two tables together. -/
theorem hld_times (h : canB T U = true) (hu : u ≠ []) (hv : v ≠ []) : Hld (timesT T U) u v ↔ Hld T u v ∧ Hld U u v := by
  obtain ⟨kT, kU, _⟩ := canB_iff.1 h
  have kS := isT_times h
  have hl := len_times h
  have t0 := kT.lo
  have u0 := kU.lo
  have th : ∀ x, Th (timesT T U) x → 0 ≤ x ∧ x < ((T.length * U.length : Nat) : Int) := fun x hx => ⟨hx.1, by rw [← hl]; exact hx.2⟩
  have m1 : ∀ x y, Th (timesT T U) x → Th (timesT T U) y → mul (timesT T U) x y / (U.length : Int) = mul T (x / (U.length : Int)) (y / (U.length : Int)) := fun x y hx hy => by
    obtain ⟨x0, x1⟩ := th x hx
    obtain ⟨y0, y1⟩ := th y hy
    rw [mul_times h x0 x1 y0 y1]
    exact (pairZ_div h x0 x1 y0 y1).1
  have m2 : ∀ x y, Th (timesT T U) x → Th (timesT T U) y → mul (timesT T U) x y % (U.length : Int) = mul U (x % (U.length : Int)) (y % (U.length : Int)) := fun x y hx hy => by
    obtain ⟨x0, x1⟩ := th x hx
    obtain ⟨y0, y1⟩ := th y hy
    rw [mul_times h x0 x1 y0 y1]
    exact (pairZ_div h x0 x1 y0 y1).2.1
  have lift : ∀ a b : Int, Th T a → Th U b → Th (timesT T U) (a * (U.length : Int) + b) ∧ (a * (U.length : Int) + b) / (U.length : Int) = a ∧ (a * (U.length : Int) + b) % (U.length : Int) = b := fun a b ha hb => by
    obtain ⟨q0, q1⟩ := pair_in h ha.1 ha.2 hb.1 hb.2
    have hne : (U.length : Int) ≠ 0 := by omega
    refine ⟨⟨q0, by rw [hl]; exact q1⟩, ?_, ?_⟩
    · rw [Int.add_comm, Int.add_mul_ediv_right _ _ hne, Int.ediv_eq_zero_of_lt hb.1 hb.2, Int.zero_add]
    · rw [Int.add_comm, Int.add_mul_emod_self_right, Int.emod_eq_of_lt hb.1 hb.2]
  have z1 : Th T 0 := ⟨by omega, by omega⟩
  have z2 : Th U 0 := ⟨by omega, by omega⟩
  constructor
  · intro hh
    constructor
    · exact hld_sur kS (fun x => x / (U.length : Int)) m1 (fun y hy => ⟨_, (lift y 0 hy z2).1, (lift y 0 hy z2).2.1⟩) hu hv hh
    · exact hld_sur kS (fun x => x % (U.length : Int)) m2 (fun y hy => ⟨_, (lift 0 y z1 hy).1, (lift 0 y z1 hy).2.2⟩) hu hv hh
  · rintro ⟨h1, h2⟩ a b c ha hb hc
    have s := sta_th ha hb hc
    have d : ∀ x, Th (timesT T U) x → Th T (x / (U.length : Int)) ∧ Th U (x % (U.length : Int)) := fun x hx => by
      obtain ⟨x0, x1⟩ := th x hx
      obtain ⟨⟨a0, a1⟩, b0, b1⟩ := in_div h x0 x1
      exact ⟨⟨a0, a1⟩, b0, b1⟩
    have e1 := vw_hom kS (fun x => x / (U.length : Int)) m1 s hu
    have e2 := vw_hom kS (fun x => x / (U.length : Int)) m1 s hv
    have e3 := vw_hom kS (fun x => x % (U.length : Int)) m2 s hu
    have e4 := vw_hom kS (fun x => x % (U.length : Int)) m2 s hv
    have l1 : (fun y => ltf a b c y / (U.length : Int)) = ltf (a / (U.length : Int)) (b / (U.length : Int)) (c / (U.length : Int)) := ltf_comp (fun x => x / (U.length : Int)) a b c
    have l2 : (fun y => ltf a b c y % (U.length : Int)) = ltf (a % (U.length : Int)) (b % (U.length : Int)) (c % (U.length : Int)) := ltf_comp (fun x => x % (U.length : Int)) a b c
    rw [l1] at e1 e2
    rw [l2] at e3 e4
    have p := h1 _ _ _ (d a ha).1 (d b hb).1 (d c hc).1
    have q := h2 _ _ _ (d a ha).2 (d b hb).2 (d c hc).2
    rw [← e1, ← e2] at p
    rw [← e3, ← e4] at q
    have i1 := Int.mul_ediv_add_emod (vw (timesT T U) (ltf a b c) u) (U.length : Int)
    have i2 := Int.mul_ediv_add_emod (vw (timesT T U) (ltf a b c) v) (U.length : Int)
    have p' : vw (timesT T U) (ltf a b c) u / (U.length : Int) = vw (timesT T U) (ltf a b c) v / (U.length : Int) := p
    have q' : vw (timesT T U) (ltf a b c) u % (U.length : Int) = vw (timesT T U) (ltf a b c) v % (U.length : Int) := q
    rw [← i1, ← i2, p', q']
theorem canA_words {S : List (List Int)} (hk : okT S = true) (hu : okW u = true) (hv : okW v = true) : canA S u v = true := canA_iff.2 ⟨hk, hu, hv⟩
theorem hldW_eq {S : List (List Int)} {u' v' : List UInt8} (h1 : canA T u v = true) (h2 : canA S u' v' = true) (h : Hld T u v ↔ Hld S u' v') : hldW T u v = hldW S u' v' := by
  rw [Bool.eq_iff_iff, hld_iff, hld_iff, h]
  simp [h1, h2]
theorem hldW_false (h : canA T u v = false) : hldW T u v = false := by unfold hldW; rw [h]; rfl
theorem hldW_self (h1 : okT T = true) (hu : okW u = true) : hldW T u u = true := hld_iff.2 ⟨canA_words h1 hu hu, fun _ _ _ _ _ _ => rfl⟩
/-- Words that are the same have the same value in bands. -/
theorem hldW_same (b : IsB T) (hu : okW u = true) (hv : okW v = true) (s : Same u v) : hldW T u v = true :=
  hld_iff.2 ⟨canA_words (okT_iff.2 b.g.tab) hu hv, fun a c d ha hc hd => vw_same b (sta_th ha hc hd) s⟩
end
/-- The table of words tells words of two letters. -/
theorem g2_rows : f2L = rowsX w2L 6 := by decide +kernel
theorem g2_at {k j : Nat} (hk : k < 6) (hj : j < 6) : mul f2L (k : Int) (j : Int) = ((ixP w2L k j : Nat) : Int) := by
  unfold mul
  rw [Int.toNat_natCast, Int.toNat_natCast, g2_rows, rw_rowsX hk]
  exact el_rowX hj
theorem two_value {z : Int} : ∀ (r : List UInt8) (k : Nat) (u : List UInt8), k < 6 → Same (sl w2L k) u → (∀ y, y ∈ r → y = 97 ∨ y = 98) → ∃ i, i < 6 ∧ Same (sl w2L i) (u ++ r) ∧ (r.map (ltf 0 3 z)).foldl (mul f2L) (k : Int) = (i : Int)
  | [], k, u, hk, hs, _ => ⟨k, hk, by simpa using hs, rfl⟩
  | y :: r, k, u, hk, hs, hr => by
    obtain ⟨j, hj, sj, ej⟩ : ∃ j : Nat, j < 6 ∧ sl w2L j = [y] ∧ ltf 0 3 z y = (j : Int) := by
      rcases hr y (by simp) with rfl | rfl
      · exact ⟨0, by omega, rfl, rfl⟩
      · exact ⟨3, by omega, rfl, rfl⟩
    have F := freeOk2
    have hi := F.ix k j hk hj
    have e : sl w2L (ixP w2L k j) = made (sl w2L k ++ sl w2L j) := of_decide_eq_true ((F.uniq _ k j hi hk hj).trans (decide_eq_true rfl))
    have hs2 : Same (sl w2L (ixP w2L k j)) (u ++ [y]) := by
      rw [e, sj]
      exact (same_made _).trans (hs.right [y])
    obtain ⟨i, hi6, si, ei⟩ := two_value r (ixP w2L k j) (u ++ [y]) hi hs2 (fun q hq => hr q (by simp [hq]))
    refine ⟨i, hi6, by simpa using si, ?_⟩
    rw [List.map_cons, List.foldl_cons, ej, g2_at hk hj]
    exact ei
theorem two_words {u : List UInt8} (hu : u ≠ []) (h : ∀ y, y ∈ u → y = 97 ∨ y = 98) (z : Int) : ∃ i : Nat, i < 6 ∧ Same (sl w2L i) u ∧ vw f2L (ltf 0 3 z) u = (i : Int) := by
  cases u with
  | nil => exact (hu rfl).elim
  | cons y r =>
    obtain ⟨j, hj, sj, ej⟩ : ∃ j : Nat, j < 6 ∧ sl w2L j = [y] ∧ ltf 0 3 z y = (j : Int) := by
      rcases h y (by simp) with rfl | rfl
      · exact ⟨0, by omega, rfl, rfl⟩
      · exact ⟨3, by omega, rfl, rfl⟩
    obtain ⟨i, hi, si, ei⟩ := two_value (z := z) r j [y] hj (by rw [sj]; exact Same.refl _) (fun q hq => h q (by simp [hq]))
    refine ⟨i, hi, by simpa using si, ?_⟩
    unfold vw pr
    rw [List.map_cons, ej]
    exact ei
theorem two_same {u v : List UInt8} (hu : u ≠ []) (hv : v ≠ []) (h1 : ∀ y, y ∈ u → y = 97 ∨ y = 98) (h2 : ∀ y, y ∈ v → y = 97 ∨ y = 98) (h : Hld f2L u v) : Same u v := by
  obtain ⟨i, _, si, ei⟩ := two_words hu h1 0
  obtain ⟨j, _, sj, ej⟩ := two_words hv h2 0
  have := h 0 3 0 ⟨by decide, by decide⟩ ⟨by decide, by decide⟩ ⟨by decide, by decide⟩
  rw [ei, ej] at this
  obtain rfl : i = j := by omega
  exact si.symm.trans sj
/-- Which identities with names hold. -/
noncomputable def kinN (T : List (List Int)) : Nat := msk (fun k => hldW T (idU k) (idV k)) 9
noncomputable def kinW (T : List (List Int)) : Int := if okT T = true then ((kinN T : Nat) : Int) else -1
theorem kinW_not {T : List (List Int)} (h : okT T = false) : kinW T = -1 := by unfold kinW; rw [if_neg (by rw [h]; exact Bool.false_ne_true)]
theorem kinW_ok {T : List (List Int)} (h : okT T = true) : kinW T = ((kinN T : Nat) : Int) := by unfold kinW; rw [if_pos h]
theorem kinN_lt (T : List (List Int)) : kinN T < 512 := msk_lt _ 9
theorem kinN_bit (T : List (List Int)) {k : Nat} (hk : k < 9) : (kinN T).testBit k = hldW T (idU k) (idV k) := by unfold kinN; rw [msk_bit]; simp [hk]
theorem id_ok : ∀ k : Fin 9, (okW (idU k) && okW (idV k)) = true := by decide
theorem idU_ok {k : Nat} (h : k < 9) : okW (idU k) = true := by have := id_ok ⟨k, h⟩; rw [Bool.and_eq_true] at this; exact this.1
theorem idV_ok {k : Nat} (h : k < 9) : okW (idV k) = true := by have := id_ok ⟨k, h⟩; rw [Bool.and_eq_true] at this; exact this.2
/-- Turned round. -/
def prm (k : Nat) : Nat := [0, 1, 3, 2, 4, 6, 5, 7, 8].getD k 0
def tkN (s : Nat) : Nat := msk (fun k => s.testBit (prm k)) 9
def tkW (s : Int) : Int := if (decide (0 ≤ s) && decide (s ≤ 511)) = true then ((tkN s.toNat : Nat) : Int) else -1
theorem tkN_lt (s : Nat) : tkN s < 512 := msk_lt _ 9
theorem tkN_bit (s : Nat) {k : Nat} (hk : k < 9) : (tkN s).testBit k = s.testBit (prm k) := by unfold tkN; rw [msk_bit]; simp [hk]
theorem prm_lt : ∀ k : Fin 9, prm k < 9 := by decide
theorem prm_prm : ∀ k : Fin 9, prm (prm k) = k := by decide
theorem bits9 {a b : Nat} (ha : a < 512) (hb : b < 512) (h : ∀ k, k < 9 → a.testBit k = b.testBit k) : a = b := by
  apply Nat.eq_of_testBit_eq
  intro i
  by_cases hi : i < 9
  · exact h i hi
  · have e : ∀ c, c < 512 → c.testBit i = false := fun c hc => Nat.testBit_lt_two_pow (Nat.lt_of_lt_of_le hc (Nat.pow_le_pow_right (n := 2) (by omega) (show 9 ≤ i by omega)))
    rw [e a ha, e b hb]
theorem tk_tk {s : Nat} (hs : s < 512) : tkN (tkN s) = s := bits9 (tkN_lt _) hs fun k hk => by
  rw [tkN_bit _ hk, tkN_bit _ (prm_lt ⟨k, hk⟩), prm_prm ⟨k, hk⟩]
/-- Kinds of tables turned over. -/
theorem turn_kind {T : List (List Int)} (g : IsG T) {k : Nat} (hk : k < 9) : Hld (turnT T) (idU k) (idV k) ↔ Hld T (idU (prm k)) (idV (prm k)) := by
  have ho := okT_iff.2 g.tab
  have hl := len_turnT ho
  have hth : ∀ {x}, Th (turnT T) x ↔ Th T x := fun {x} => by unfold Th; rw [hl]
  have m : ∀ {x y : Int}, Th T x → Th T y → mul (turnT T) x y = mul T y x := fun hx hy => mul_turnT ho hx.1 hx.2 hy.1 hy.2
  have th : ∀ {x y : Int}, Th T x → Th T y → Th T (mul T x y) := fun hx hy => g.tab.mul hx.1 hx.2 hy.1 hy.2
  have ass : ∀ {x y z : Int}, Th T x → Th T y → Th T z → mul T x (mul T y z) = mul T (mul T x y) z := fun hx hy hz => g.grp _ _ _ hx.1 hx.2 hy.1 hy.2 hz.1 hz.2
  obtain rfl | rfl | rfl | rfl | rfl | rfl | rfl | rfl | rfl : k = 0 ∨ k = 1 ∨ k = 2 ∨ k = 3 ∨ k = 4 ∨ k = 5 ∨ k = 6 ∨ k = 7 ∨ k = 8 := by omega
  · show Hld (turnT T) (idU 0) (idV 0) ↔ Hld T (idU 0) (idV 0)
    rw [hld0, hld0]
    exact ⟨fun h x hx => by have := h x (hth.2 hx); rwa [m hx hx] at this, fun h x hx => by rw [m (hth.1 hx) (hth.1 hx)]; exact h x (hth.1 hx)⟩
  · show Hld (turnT T) (idU 1) (idV 1) ↔ Hld T (idU 1) (idV 1)
    rw [hld1, hld1]
    exact ⟨fun h x y hx hy => by have := h y x (hth.2 hy) (hth.2 hx); rwa [m hx hy, m hy hx] at this, fun h x y hx hy => by rw [m (hth.1 hx) (hth.1 hy), m (hth.1 hy) (hth.1 hx)]; exact h y x (hth.1 hy) (hth.1 hx)⟩
  · show Hld (turnT T) (idU 2) (idV 2) ↔ Hld T (idU 3) (idV 3)
    rw [hld2, hld3]
    exact ⟨fun h x y hx hy => by have := h y x (hth.2 hy) (hth.2 hx); rwa [m hy hx] at this, fun h x y hx hy => by rw [m (hth.1 hx) (hth.1 hy)]; exact h y x (hth.1 hy) (hth.1 hx)⟩
  · show Hld (turnT T) (idU 3) (idV 3) ↔ Hld T (idU 2) (idV 2)
    rw [hld3, hld2]
    exact ⟨fun h x y hx hy => by have := h y x (hth.2 hy) (hth.2 hx); rwa [m hy hx] at this, fun h x y hx hy => by rw [m (hth.1 hx) (hth.1 hy)]; exact h y x (hth.1 hy) (hth.1 hx)⟩
  · show Hld (turnT T) (idU 4) (idV 4) ↔ Hld T (idU 4) (idV 4)
    rw [hld4, hld4]
    exact ⟨fun h x y hx hy => by have := h x y (hth.2 hx) (hth.2 hy); rwa [m hx hy, m (th hy hx) hx, ass hx hy hx] at this, fun h x y hx hy => by rw [m (hth.1 hx) (hth.1 hy), m (th (hth.1 hy) (hth.1 hx)) (hth.1 hx), ass (hth.1 hx) (hth.1 hy) (hth.1 hx)]; exact h x y (hth.1 hx) (hth.1 hy)⟩
  · show Hld (turnT T) (idU 5) (idV 5) ↔ Hld T (idU 6) (idV 6)
    rw [hld5, hld6]
    exact ⟨fun h x y hx hy => by have := h x y (hth.2 hx) (hth.2 hy); rwa [m hx hy, m (th hy hx) hx, ass hx hy hx] at this, fun h x y hx hy => by rw [m (hth.1 hx) (hth.1 hy), m (th (hth.1 hy) (hth.1 hx)) (hth.1 hx), ass (hth.1 hx) (hth.1 hy) (hth.1 hx)]; exact h x y (hth.1 hx) (hth.1 hy)⟩
  · show Hld (turnT T) (idU 6) (idV 6) ↔ Hld T (idU 5) (idV 5)
    rw [hld6, hld5]
    exact ⟨fun h x y hx hy => by have := h x y (hth.2 hx) (hth.2 hy); rwa [m hx hy, m hy hx, m (th hy hx) hx, ass hx hy hx] at this, fun h x y hx hy => by rw [m (hth.1 hx) (hth.1 hy), m (hth.1 hy) (hth.1 hx), m (th (hth.1 hy) (hth.1 hx)) (hth.1 hx), ass (hth.1 hx) (hth.1 hy) (hth.1 hx)]; exact h x y (hth.1 hx) (hth.1 hy)⟩
  · show Hld (turnT T) (idU 7) (idV 7) ↔ Hld T (idU 7) (idV 7)
    rw [hld7, hld7]
    have e : ∀ {x y z : Int}, Th T x → Th T y → Th T z → mul (turnT T) (mul (turnT T) (mul (turnT T) x y) z) x = mul T (mul T (mul T x z) y) x := fun {x y z} hx hy hz => by
      rw [m hx hy, m (th hy hx) hz, m (th hz (th hy hx)) hx, ass hx hz (th hy hx), ass (th hx hz) hy hx]
    exact ⟨fun h x y z hx hy hz => by have := h x z y (hth.2 hx) (hth.2 hz) (hth.2 hy); rwa [e hx hz hy, e hx hy hz] at this, fun h x y z hx hy hz => by rw [e (hth.1 hx) (hth.1 hy) (hth.1 hz), e (hth.1 hx) (hth.1 hz) (hth.1 hy)]; exact h x z y (hth.1 hx) (hth.1 hz) (hth.1 hy)⟩
  · show Hld (turnT T) (idU 8) (idV 8) ↔ Hld T (idU 8) (idV 8)
    rw [hld8, hld8]
    have e : ∀ {x y z : Int}, Th T x → Th T y → Th T z → mul (turnT T) (mul (turnT T) (mul (turnT T) x y) z) x = mul T (mul T (mul T x z) y) x := fun {x y z} hx hy hz => by
      rw [m hx hy, m (th hy hx) hz, m (th hz (th hy hx)) hx, ass hx hz (th hy hx), ass (th hx hz) hy hx]
    have e2 : ∀ {x y z : Int}, Th T x → Th T y → Th T z → mul (turnT T) (mul (turnT T) (mul (turnT T) (mul (turnT T) x y) x) z) x = mul T (mul T (mul T (mul T x z) x) y) x := fun {x y z} hx hy hz => by
      rw [m hx hy, m (th hy hx) hx, m (th hx (th hy hx)) hz, m (th hz (th hx (th hy hx))) hx, ass hx hz (th hx (th hy hx)), ass (th hx hz) hx (th hy hx), ass (th (th hx hz) hx) hy hx]
    exact ⟨fun h x y z hx hy hz => by have := h x z y (hth.2 hx) (hth.2 hz) (hth.2 hy); rwa [e hx hz hy, e2 hx hz hy] at this, fun h x y z hx hy hz => by rw [e (hth.1 hx) (hth.1 hy) (hth.1 hz), e2 (hth.1 hx) (hth.1 hy) (hth.1 hz)]; exact h x z y (hth.1 hx) (hth.1 hz) (hth.1 hy)⟩
theorem kin_turn {T : List (List Int)} (g : IsG T) : kinN (turnT T) = tkN (kinN T) := bits9 (kinN_lt _) (tkN_lt _) fun k hk => by
  have ho := okT_iff.2 g.tab
  have hp := prm_lt ⟨k, hk⟩
  rw [kinN_bit _ hk, tkN_bit _ hk, kinN_bit _ hp]
  exact hldW_eq (canA_words (okT_iff.2 (isT_turnT ho)) (idU_ok hk) (idV_ok hk)) (canA_words ho (idU_ok hp) (idV_ok hp)) (turn_kind g hk)
end Go.Proofs.Ythllbekoidogpaa
