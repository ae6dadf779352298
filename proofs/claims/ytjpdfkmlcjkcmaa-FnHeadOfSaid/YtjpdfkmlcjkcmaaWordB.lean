
/- Words as the program holds them: bytes; and what is a word: plain mathematics. -/
import Derived.Test.YtjpdfkmlcjkcmaaWordS
import Derived.Test.YtjpdfkmlcjkcmaaMem
import Derived.Test.YtjpdfkmlcjkcmaaMadeS
namespace Go.Proofs.Ytjpdfkmlcjkcmaa
set_option linter.unusedVariables false

/-- The text of a word. -/
def bs (u : List UInt8) : ByteArray := ⟨u.toArray⟩
/-- The k-th letter. -/
def lt (u : List UInt8) (k : Nat) : UInt8 := u.getD k 0
def okC (c : UInt8) : Bool := decide (97 ≤ c.toNat) && decide (c.toNat ≤ 99)
def okW (u : List UInt8) : Bool := u.all okC && (decide (1 ≤ u.length) && decide (u.length ≤ 24))
section
variable {u v : List UInt8} {k : Nat}
theorem bs_of (s : ByteArray) : s = bs s.data.toList := by cases s; simp [bs]
theorem size_bs (u : List UInt8) : (bs u).size = u.length := by simp [bs, ByteArray.size]
theorem toList_bs (u : List UInt8) : (bs u).toList = u := ByteArray.toList_mk u
theorem get_bs (h : k < (bs u).size) : (bs u)[k]'h = lt u k := by
  have h2 : k < u.length := by rw [size_bs] at h; exact h
  have e : lt u k = u[k] := by simp [lt, h2]
  rw [e]
  rfl
theorem ext_bs (u : List UInt8) (a b : Nat) : (bs u).extract a b = bs ((u.drop a).take (b - a)) := by
  unfold bs
  rw [ByteArray.extract_mk]
theorem app_bs (u v : List UInt8) : bs u ++ bs v = bs (u ++ v) := ByteArray.mk_append_mk u v
theorem lt_mem (h : k < u.length) : lt u k ∈ u := by simp [lt, h]
theorem okW_iff : okW u = true ↔ (∀ c, c ∈ u → okC c = true) ∧ 1 ≤ u.length ∧ u.length ≤ 24 := by
  unfold okW
  rw [Bool.and_eq_true, Bool.and_eq_true, List.all_eq_true, decide_eq_true_iff, decide_eq_true_iff]
theorem okW_bad (h : k < u.length) (hc : okC (lt u k) = false) : okW u = false := by
  cases e : okW u with
  | false => rfl
  | true => rw [(okW_iff.1 e).1 _ (lt_mem h)] at hc; cases hc
theorem okW_len (h : ∀ j, j < u.length → okC (lt u j) = true) : okW u = (decide (1 ≤ u.length) && decide (u.length ≤ 24)) := by
  unfold okW
  have : u.all okC = true := by
    rw [List.all_eq_true]
    intro c hc
    obtain ⟨j, hj, rfl⟩ := List.getElem_of_mem hc
    have := h j hj
    simpa [lt, hj] using this
  rw [this, Bool.true_and]
theorem okC_iff {c : UInt8} : okC c = true ↔ c = 97 ∨ c = 98 ∨ c = 99 := by
  unfold okC
  rw [Bool.and_eq_true, decide_eq_true_iff, decide_eq_true_iff, ← UInt8.toNat_inj, ← UInt8.toNat_inj, ← UInt8.toNat_inj]
  show _ ↔ c.toNat = 97 ∨ c.toNat = 98 ∨ c.toNat = 99
  omega
theorem okC_int (c : UInt8) : okC c = (decide ((97 : Int) ≤ ((c.toNat : Nat) : Int)) && decide (((c.toNat : Nat) : Int) ≤ 99)) := by
  unfold okC
  congr 1 <;> rw [decide_eq_decide] <;> omega
theorem okW_ok (h : okW u = true) (hk : k < u.length) : okC (lt u k) = true := (okW_iff.1 h).1 _ (lt_mem hk)
end
/-- A letter among letters, as the specification adds it. -/
def dlt (c : UInt8) : Nat := 2 ^ (c.toNat % 32) / 2
def letF (u : List UInt8) (k : Nat) : Nat := (u.take k).foldl (fun s c => s ||| dlt c) 0
theorem dlt_lt (c : UInt8) : dlt c < 2 ^ 31 := by
  unfold dlt
  have h : c.toNat % 32 ≤ 31 := by omega
  have : 2 ^ (c.toNat % 32) ≤ 2 ^ 31 := Nat.pow_le_pow_right (by omega) h
  omega
theorem letF_succ {u : List UInt8} {k : Nat} (h : k < u.length) : letF u (k + 1) = letF u k ||| dlt (lt u k) := by
  have e : u.take (k + 1) = u.take k ++ [lt u k] := by
    have : lt u k = u[k] := by simp [lt, h]
    rw [this, List.take_succ_eq_append_getElem h]
  unfold letF
  rw [e, List.foldl_append]; rfl
theorem letF_lt (u : List UInt8) : ∀ k, letF u k < 2 ^ 31
  | 0 => by simp [letF]
  | k + 1 => by
    by_cases h : k < u.length
    · rw [letF_succ h]; exact Nat.or_lt_two_pow (letF_lt u k) (dlt_lt _)
    · have : letF u (k + 1) = letF u k := by
        unfold letF
        rw [List.take_of_length_le (by omega), List.take_of_length_le (by omega)]
      rw [this]; exact letF_lt u k
theorem bits_or31 {a b : Nat} (ha : a < 2 ^ 31) (hb : b < 2 ^ 31) : bits .or .i64 (a : Int) (b : Int) = ((a ||| b : Nat) : Int) :=
  (bits_nat .i64 31 (by decide) (fun n h0 h1 => IntWalk.i64_in _ ⟨by omega, by omega⟩) a b ha hb).2
theorem and31 (c : UInt8) : bits .and .u8 ((c.toNat : Nat) : Int) 31 = ((c.toNat % 32 : Nat) : Int) := by
  have h := (bits_nat .u8 8 (by decide) (fun n h0 h1 => IntWalk.u8_in _ ⟨by omega, by omega⟩) c.toNat 31 c.toNat_lt (by decide)).1
  rw [show (31 : Int) = ((31 : Nat) : Int) from rfl, h]
  congr 1
  exact Nat.and_two_pow_sub_one_eq_mod c.toNat 5
/-- Which letters a word has. -/
def ltr (u : List UInt8) : Nat := (if 97 ∈ u then 1 else 0) ||| (if 98 ∈ u then 2 else 0) ||| (if 99 ∈ u then 4 else 0)
def letN (u : List UInt8) : Int := if okW u = true then ((ltr u : Nat) : Int) else -1
theorem letN_not {u : List UInt8} (h : okW u = false) : letN u = -1 := by unfold letN; rw [if_neg (by rw [h]; exact Bool.false_ne_true)]
theorem letN_ok {u : List UInt8} (h : okW u = true) : letN u = ((ltr u : Nat) : Int) := by unfold letN; rw [if_pos h]
theorem ltr_app (u : List UInt8) (c : UInt8) (hc : okC c = true) : ltr (u ++ [c]) = ltr u ||| dlt c := by
  unfold ltr dlt
  rcases okC_iff.1 hc with rfl | rfl | rfl
  all_goals
    by_cases h1 : (97 : UInt8) ∈ u <;> by_cases h2 : (98 : UInt8) ∈ u <;> by_cases h3 : (99 : UInt8) ∈ u <;> simp [h1, h2, h3]
theorem letF_ltr {u : List UInt8} (h : ∀ c, c ∈ u → okC c = true) : ∀ k, letF u k = ltr (u.take k)
  | 0 => by simp [letF, ltr]
  | k + 1 => by
    by_cases hk : k < u.length
    · have e : u.take (k + 1) = u.take k ++ [lt u k] := by
        have : lt u k = u[k] := by simp [lt, hk]
        rw [this, List.take_succ_eq_append_getElem hk]
      rw [letF_succ hk, e, ltr_app _ _ (h _ (lt_mem hk)), letF_ltr h k]
    · have e1 : letF u (k + 1) = letF u k := by
        unfold letF
        rw [List.take_of_length_le (by omega), List.take_of_length_le (by omega)]
      rw [e1, letF_ltr h k, List.take_of_length_le (by omega), List.take_of_length_le (by omega)]
theorem letF_all {u : List UInt8} (h : okW u = true) : letF u u.length = ltr u := by
  rw [letF_ltr (okW_iff.1 h).1, List.take_length]
/-- Letters are the same exactly if words have the same. -/
theorem ltr_iff {u v : List UInt8} (hu : ∀ c, c ∈ u → okC c = true) (hv : ∀ c, c ∈ v → okC c = true) : ltr u = ltr v ↔ ∀ c, c ∈ u ↔ c ∈ v := by
  constructor
  · intro e c
    have key : ((97 : UInt8) ∈ u ↔ (97 : UInt8) ∈ v) ∧ ((98 : UInt8) ∈ u ↔ (98 : UInt8) ∈ v) ∧ ((99 : UInt8) ∈ u ↔ (99 : UInt8) ∈ v) := by
      unfold ltr at e
      by_cases h1 : (97 : UInt8) ∈ u <;> by_cases h2 : (98 : UInt8) ∈ u <;> by_cases h3 : (99 : UInt8) ∈ u <;> by_cases h4 : (97 : UInt8) ∈ v <;> by_cases h5 : (98 : UInt8) ∈ v <;> by_cases h6 : (99 : UInt8) ∈ v <;> simp_all
    obtain ⟨k1, k2, k3⟩ := key
    constructor
    · intro h
      rcases okC_iff.1 (hu c h) with rfl | rfl | rfl
      · exact k1.1 h
      · exact k2.1 h
      · exact k3.1 h
    · intro h
      rcases okC_iff.1 (hv c h) with rfl | rfl | rfl
      · exact k1.2 h
      · exact k2.2 h
      · exact k3.2 h
  · intro h
    unfold ltr
    simp only [h]
theorem ltr_range {u : List UInt8} (h : okW u = true) : 1 ≤ ltr u ∧ ltr u ≤ 7 := by
  have hw := okW_iff.1 h
  have h0 : 0 < u.length := hw.2.1
  have hm := lt_mem h0
  have hc := okC_iff.1 (hw.1 _ hm)
  generalize lt u 0 = c at hm hc
  unfold ltr
  rcases hc with rfl | rfl | rfl
  all_goals
    by_cases h1 : (97 : UInt8) ∈ u <;> by_cases h2 : (98 : UInt8) ∈ u <;> by_cases h3 : (99 : UInt8) ∈ u <;> simp_all
/-- A word turned round. -/
def rndW (u : List UInt8) : List UInt8 := if okW u = true then u.reverse else []
theorem rndW_not {u : List UInt8} (h : okW u = false) : rndW u = [] := by unfold rndW; rw [if_neg (by rw [h]; exact Bool.false_ne_true)]
theorem rndW_ok {u : List UInt8} (h : okW u = true) : rndW u = u.reverse := by unfold rndW; rw [if_pos h]
theorem drop_rev {u : List UInt8} {m : Nat} (h : m < u.length) : (u.drop (m + 1)).reverse ++ [lt u m] = (u.drop m).reverse := by
  have e : lt u m = u[m] := by simp [lt, h]
  rw [List.drop_eq_getElem_cons h, e, List.reverse_cons]
theorem ext_one {u : List UInt8} {k : Nat} (h : k < u.length) : (bs u).extract k (k + 1) = bs [lt u k] := by
  have e : lt u k = u[k] := by simp [lt, h]
  rw [ext_bs, e, Nat.add_sub_cancel_left, List.drop_eq_getElem_cons h]
  rfl
theorem ext_take (u : List UInt8) (k : Nat) : (bs u).extract 0 k = bs (u.take k) := by rw [ext_bs]; simp
theorem okW_take {u : List UInt8} (h : okW u = true) {k : Nat} (h1 : 1 ≤ k) (h2 : k ≤ u.length) : okW (u.take k) = true := by
  obtain ⟨a, b, c⟩ := okW_iff.1 h
  exact okW_iff.2 ⟨fun x hx => a x (List.mem_of_mem_take hx), by rw [List.length_take]; omega, by rw [List.length_take]; omega⟩
theorem take_lt {u : List UInt8} {k : Nat} (hk : k < u.length) : u.take (k + 1) = u.take k ++ [lt u k] := by
  have : lt u k = u[k] := by simp [lt, hk]
  rw [this, List.take_succ_eq_append_getElem hk]
/-- The head under way. -/
theorem hd_start {u : List UInt8} (h : 0 < u.length) : HdIs (u.take 1) (u.take 0) (lt u 0) := by
  have := take_lt h
  rw [this]
  exact ⟨⟨[], by simp, fun y hy => by cases hy⟩, by simp⟩
theorem hd_old {u : List UInt8} {k a : Nat} (hk : k < u.length) (h : HdIs (u.take k) (u.take a) (lt u a)) (hm : lt u k ∈ u.take k) : HdIs (u.take (k + 1)) (u.take a) (lt u a) := by
  rw [take_lt hk]; exact h.old hm
theorem hd_new {u : List UInt8} {k : Nat} (hk : k < u.length) (hm : lt u k ∉ u.take k) : HdIs (u.take (k + 1)) (u.take k) (lt u k) := by
  rw [take_lt hk]; exact HdIs.fresh hm
theorem let_old {u : List UInt8} (h : okW u = true) {k : Nat} (h1 : 1 ≤ k) (hk : k < u.length) (hm : lt u k ∈ u.take k) : letN (u.take (k + 1)) = letN (u.take k) := by
  have o1 := okW_take h h1 (by omega : k ≤ u.length)
  have o2 := okW_take h (k := k + 1) (by omega) (by omega)
  rw [letN_ok o1, letN_ok o2, (ltr_iff (okW_iff.1 o2).1 (okW_iff.1 o1).1).2 fun c => by
    rw [take_lt hk, List.mem_append, List.mem_singleton]
    exact ⟨fun h => h.elim id (fun e => e ▸ hm), .inl⟩]
theorem let_new {u : List UInt8} (h : okW u = true) {k : Nat} (h1 : 1 ≤ k) (hk : k < u.length) (hm : lt u k ∉ u.take k) : letN (u.take (k + 1)) ≠ letN (u.take k) := by
  have o1 := okW_take h h1 (by omega : k ≤ u.length)
  have o2 := okW_take h (k := k + 1) (by omega) (by omega)
  rw [letN_ok o1, letN_ok o2]
  intro e
  have e' : ltr (u.take (k + 1)) = ltr (u.take k) := by omega
  exact hm (((ltr_iff (okW_iff.1 o2).1 (okW_iff.1 o1).1).1 e' _).1 (by rw [take_lt hk]; simp))
/-- The head of a word, and its letter; nothing for others. -/
def hdW (u : List UInt8) : List UInt8 := if okW u = true then hd u else []
def hlW (u : List UInt8) : List UInt8 := if okW u = true then [hl u] else []
def tlW (u : List UInt8) : List UInt8 := if okW u = true then tl u else []
def llW (u : List UInt8) : List UInt8 := if okW u = true then [ll u] else []
section
variable {u : List UInt8}
theorem hdW_not (h : okW u = false) : hdW u = [] := by unfold hdW; rw [if_neg (by rw [h]; exact Bool.false_ne_true)]
theorem hlW_not (h : okW u = false) : hlW u = [] := by unfold hlW; rw [if_neg (by rw [h]; exact Bool.false_ne_true)]
theorem tlW_not (h : okW u = false) : tlW u = [] := by unfold tlW; rw [if_neg (by rw [h]; exact Bool.false_ne_true)]
theorem llW_not (h : okW u = false) : llW u = [] := by unfold llW; rw [if_neg (by rw [h]; exact Bool.false_ne_true)]
theorem hdW_ok (h : okW u = true) : hdW u = hd u := by unfold hdW; rw [if_pos h]
theorem hlW_ok (h : okW u = true) : hlW u = [hl u] := by unfold hlW; rw [if_pos h]
theorem tlW_ok (h : okW u = true) : tlW u = tl u := by unfold tlW; rw [if_pos h]
theorem llW_ok (h : okW u = true) : llW u = [ll u] := by unfold llW; rw [if_pos h]
theorem okW_ne (h : okW u = true) : u ≠ [] := fun e => by have := (okW_iff.1 h).2.1; rw [e] at this; simp at this
theorem okW_pre {h : List UInt8} {x : UInt8} (hw : okW u = true) (k : HdIs u h x) : h = [] ∨ okW h = true := by
  by_cases e : h = []
  · exact .inl e
  · obtain ⟨a, b, c⟩ := okW_iff.1 hw
    have hl := k.lt
    exact .inr (okW_iff.2 ⟨fun y hy => a y (k.mem.2 (.inl hy)), List.length_pos_iff.2 e, by omega⟩)
theorem okW_rev : okW u.reverse = okW u := by
  rw [Bool.eq_iff_iff, okW_iff, okW_iff]
  simp
theorem rnd_hd (hw : okW u = true) : rndW (hd u.reverse) = tl u := by
  have hr : okW u.reverse = true := by rw [okW_rev]; exact hw
  rcases okW_pre hr (hdIs (okW_ne hr)) with e | e
  · rw [e, rndW_not (by rfl)]
    unfold tl; rw [e]; rfl
  · rw [rndW_ok e]; rfl
end
section
variable {u v : List UInt8}
theorem okW_app (h1 : okW u = true) (h2 : okW v = true) (h : u.length + v.length ≤ 24) : okW (u ++ v) = true := by
  obtain ⟨a1, a2, a3⟩ := okW_iff.1 h1
  obtain ⟨b1, b2, b3⟩ := okW_iff.1 h2
  exact okW_iff.2 ⟨fun c hc => (List.mem_append.1 hc).elim (a1 c) (b1 c), by rw [List.length_append]; omega, by rw [List.length_append]; omega⟩
theorem letN_mem (h1 : okW u = true) (h2 : okW v = true) (h : ∀ c, c ∈ u ↔ c ∈ v) : letN u = letN v := by
  rw [letN_ok h1, letN_ok h2, (ltr_iff (okW_iff.1 h1).1 (okW_iff.1 h2).1).2 h]
theorem okW_sub (h1 : okW u = true) (hs : ∀ c, c ∈ v → c ∈ u) (hl : v.length ≤ u.length) (h0 : v ≠ []) : okW v = true := by
  obtain ⟨a1, a2, a3⟩ := okW_iff.1 h1
  exact okW_iff.2 ⟨fun c hc => a1 c (hs c hc), List.length_pos_iff.2 h0, by omega⟩
theorem add_bs {P : Program} (u v : List UInt8) (h : u.length + v.length ≤ 9223372036854775807) (w : World) : (Op.stringOp .add (bs u) (bs v)).run P w = .ok (.string (bs (u ++ v))) w := by
  rw [run_string_add_sum w _ _ (by rw [size_bs, size_bs]; exact h), app_bs]
theorem eq_bs (u v : List UInt8) : ((bs u).toList == (bs v).toList) = decide (u = v) := by
  rw [toList_bs, toList_bs]
  rw [Bool.eq_iff_iff, beq_iff_eq, decide_eq_true_iff]
end
end Go.Proofs.Ytjpdfkmlcjkcmaa
