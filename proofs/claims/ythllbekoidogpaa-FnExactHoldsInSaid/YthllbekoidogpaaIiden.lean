/-  -/
import Derived.Test.YthllbekoidogpaaSidenT
import Derived.Test.YthllbekoidogpaaIsame
import Derived.Test.YthllbekoidogpaaIword
import Derived.Test.YthllbekoidogpaaTab
import Derived.Test.YthllbekoidogpaaIfreeB
import Derived.Maps.OwnIn
import Derived.Shelf.Abstract
import Derived.Shelf.RegionOpen
import Derived.WalkKit
import Derived.OwnWalkIn
import Derived.TacticsInMore
import Derived.LoopNIn
import Derived.LoopIn
import Derived.Deep.WholeRow
namespace Go.Proofs.Ythllbekoidogpaa
open Go.RowKit
set_option linter.unusedVariables false
set_option linter.unusedSimpArgs false
set_option maxRecDepth 20000 in
set_option maxHeartbeats 4000000 in
theorem iHoldsIn_any (A : Option Addr) (ca lo hi : Nat) (T : List (List Int)) (u v : List UInt8) (w : World) (h : Mat w lo hi A T) (hh : hi ≤ w.heap.size) (hS : Small T) (hn : u.length ≤ 1048576) (hm : v.length ≤ 1048576) :
    Calls Try.prog 14 #[.slice A T.length ca, .string (bs u), .string (bs v)] w fun e w' => e = .returned (.bool (hldW T u v)) ∧ Below w.heap.size w w' := by
  cases hk : okT T
  · have HE := hide (hldW_false (T := T) (u := u) (v := v) (by unfold canA; rw [hk]; rfl))
    go_enter Try.func14, Try.ntmps14
    go_wp2_with fail
    refine (iTableOk_any _ _ _ _ _ _ h hS).mono ?_
    rw [hk]
    rintro e w' ⟨rfl, rfl⟩
    go_wp2
    go_ret
    exact ⟨ret_bool HE.out.symm, Below.refl _ _⟩
  cases hu : okW u
  · have HE := hide (hldW_false (T := T) (u := u) (v := v) (by unfold canA; rw [hk, hu]; rfl))
    go_enter Try.func14, Try.ntmps14
    go_wp2_with fail
    refine (iTableOk_any _ _ _ _ _ _ h hS).mono ?_
    rw [hk]
    rintro e w' ⟨rfl, rfl⟩
    go_wp2_with fail
    refine (iWordOk_any u _ hn).mono ?_
    rw [hu]
    rintro e w1 ⟨rfl, b1⟩
    go_wp2
    go_ret
    exact ⟨ret_bool HE.out.symm, b1⟩
  cases hv : okW v
  · have HE := hide (hldW_false (T := T) (u := u) (v := v) (by unfold canA; rw [hk, hu, hv]; rfl))
    go_enter Try.func14, Try.ntmps14
    go_wp2_with fail
    refine (iTableOk_any _ _ _ _ _ _ h hS).mono ?_
    rw [hk]
    rintro e w' ⟨rfl, rfl⟩
    go_wp2_with fail
    refine (iWordOk_any u _ hn).mono ?_
    rw [hu]
    rintro e w1 ⟨rfl, b1⟩
    go_wp2_with fail
    refine (iWordOk_any v _ hm).mono ?_
    rw [hv]
    rintro e w2 ⟨rfl, b2⟩
    have B2 := b1.trans (b2.mono b1.size)
    go_wp2
    go_ret
    exact ⟨ret_bool HE.out.symm, B2⟩
  have hc := canA_words hk hu hv
  cases ha : apart T u v with
  | none =>
    have HE := hide (show hldW T u v = true from by rw [hldW_can hc, ha]; rfl)
    have HA := hide (apR_none ha)
    clear ha hc
    go_enter Try.func14, Try.ntmps14
    go_wp2_with fail
    refine (iTableOk_any _ _ _ _ _ _ h hS).mono ?_
    rw [hk]
    rintro e w' ⟨rfl, rfl⟩
    go_wp2_with fail
    refine (iWordOk_any u _ hn).mono ?_
    rw [hu]
    rintro e w1 ⟨rfl, b1⟩
    go_wp2_with fail
    refine (iWordOk_any v _ hm).mono ?_
    rw [hv]
    rintro e w2 ⟨rfl, b2⟩
    have B2 := b1.trans (b2.mono b1.size)
    go_wp2_with fail
    refine (iApartIn_any A ca lo hi T u v _ (h.below B2 hh) (Nat.le_trans hh B2.size) hS hn hm).mono ?_
    rw [HA.out]
    rintro e w3 ⟨rfl, b3⟩
    go_wp2
    go_ret
    exact ⟨ret_bool HE.out.symm, B2.trans (b3.mono B2.size)⟩
  | some k =>
    have HE := hide (show hldW T u v = false from by rw [hldW_can hc, ha]; rfl)
    have HA := hide (apR_some ha)
    clear ha hc
    obtain ⟨p, hp⟩ : ∃ p, p = ((k : Int) / (T.length : Int) / (T.length : Int)) := ⟨_, rfl⟩
    obtain ⟨q, hq⟩ : ∃ p, p = ((k : Int) / (T.length : Int) % (T.length : Int)) := ⟨_, rfl⟩
    obtain ⟨r, hr⟩ : ∃ p, p = ((k : Int) % (T.length : Int)) := ⟨_, rfl⟩
    rw [← hp, ← hq, ← hr] at HA
    clear hp hq hr
    go_enter Try.func14, Try.ntmps14
    go_wp2_with fail
    refine (iTableOk_any _ _ _ _ _ _ h hS).mono ?_
    rw [hk]
    rintro e w' ⟨rfl, rfl⟩
    go_wp2_with fail
    refine (iWordOk_any u _ hn).mono ?_
    rw [hu]
    rintro e w1 ⟨rfl, b1⟩
    go_wp2_with fail
    refine (iWordOk_any v _ hm).mono ?_
    rw [hv]
    rintro e w2 ⟨rfl, b2⟩
    have B2 := b1.trans (b2.mono b1.size)
    go_wp2_with fail
    refine (iApartIn_any A ca lo hi T u v _ (h.below B2 hh) (Nat.le_trans hh B2.size) hS hn hm).mono ?_
    rw [HA.out]
    rintro e w3 ⟨rfl, b3⟩
    go_wp2
    go_ret
    exact ⟨ret_bool HE.out.symm, B2.trans (b3.mono B2.size)⟩
set_option maxHeartbeats 1000000 in
theorem iAlwaysOk_any (u v : List UInt8) (w : World) (hn : u.length ≤ 1048576) (hm : v.length ≤ 1048576) :
    Calls Try.prog 45 #[.string (bs u), .string (bs v)] w fun e w' => e = .returned (.bool (okW u && (okW v && sameB u v))) ∧ Below w.heap.size w w' := by
  go_enter Try.func45, Try.ntmps45
  go_wp2_with fail
  refine (iSameWords_any u v _ hn hm).mono ?_
  rintro e w1 ⟨rfl, q1⟩
  go_wp2
  go_ret
  exact ⟨rfl, q1⟩
set_option maxHeartbeats 1000000 in
/-- A set with one more number; whether a set has it; which number it has turned round. -/
theorem with_any (s k : Nat) (w : World) (hs : s < 1024) (hk : k ≤ 9) :
    Calls Try.prog 65 #[.int .i64 s, .int .i64 k] w fun e w' => e = .returned (.int .i64 ((s ||| 2 ^ k : Nat) : Int)) ∧ w' = w := by
  obtain ⟨p0, p1⟩ := pow_int hk
  have hor := or_pow hs hk
  go_enter Try.func65, Try.ntmps65
  go_wp2
  go_ret
  exact ⟨rfl, rfl⟩
set_option maxHeartbeats 1000000 in
theorem has_any (s k : Nat) (w : World) (hs : s < 1024) (hk : k ≤ 9) :
    Calls Try.prog 85 #[.int .i64 s, .int .i64 k] w fun e w' => e = .returned (.bool (s.testBit k)) ∧ w' = w := by
  obtain ⟨p0, p1⟩ := pow_int hk
  have han := and_pow hs hk
  cases hb : s.testBit k
  · rw [hb] at han
    replace han : bits .and .i64 (s : Int) ((2 : Int) ^ k) = 0 := by simpa using han
    clear hb
    go_enter Try.func85, Try.ntmps85
    go_wp2
    go_ret
    exact ⟨rfl, rfl⟩
  · rw [hb] at han
    replace han : bits .and .i64 (s : Int) ((2 : Int) ^ k) = (2 : Int) ^ k := by simpa using han
    have hne := hide (show ((2 : Int) ^ k != 0) = true from bne_iff_ne.2 (by omega))
    clear hb
    go_enter Try.func85, Try.ntmps85
    go_wp2
    go_ret
    exact ⟨ret_bool hne.out, rfl⟩
set_option maxHeartbeats 4000000 in
theorem turnedNumber_any (k : Nat) (w : World) (hk : k < 9) :
    Calls Try.prog 86 #[.int .i64 k] w fun e w' => e = .returned (.int .i64 (prm k : Nat)) ∧ w' = w := by
  obtain rfl | rfl | rfl | rfl | rfl | rfl | rfl | rfl | rfl : k = 0 ∨ k = 1 ∨ k = 2 ∨ k = 3 ∨ k = 4 ∨ k = 5 ∨ k = 6 ∨ k = 7 ∨ k = 8 := by omega
  all_goals
    go_enter Try.func86, Try.ntmps86
    go_wp2
    go_ret
    exact ⟨rfl, rfl⟩
set_option maxRecDepth 20000 in
set_option maxHeartbeats 4000000 in
theorem turnedK_any (s : Nat) (w : World) (hs : s < 512) :
    Calls Try.prog 70 #[.int .i64 s] w fun e w' => e = .returned (.int .i64 (toK s 9 : Nat)) ∧ w' = w := by
  go_enter Try.func70, Try.ntmps70
  go_wp2
  go_loopg [5, 3] 9 (fun g i v wr => ∃ k : Nat, k ≤ 9 ∧ Hid (g = 9 - k) ∧ i = .int .i64 k ∧ v = .int .i64 ((toK s k : Nat) : Int) ∧ wr = w)
  case atStart => exact ⟨0, Nat.zero_le _, rfl, rfl, rfl, rfl⟩
  case round =>
    obtain ⟨k, hk, hg, rfl, rfl, rfl⟩ := hrel
    by_cases hkt : k < 9
    · have hki : (k : Int) < 9 := by omega
      have HK := hide (toK_lt s k hk)
      go_wp2_with fail
      refine (has_any s k _ (by omega) (by omega)).mono ?_
      cases hb : s.testBit k
      · have HN := hide (toK_no hb)
        rintro e w' ⟨rfl, rfl⟩
        clear hb
        go_wp2
        go_roundg (9 - (k + 1))
        case measure => go_light; have := hg.out; omega
        case rel => go_light; exact ⟨k + 1, by omega, rfl, by go_num, by rw [HN.out], rfl⟩
      · have HN := hide (toK_yes hb)
        rintro e w' ⟨rfl, rfl⟩
        clear hb
        go_wp2_with fail
        refine (turnedNumber_any k _ hkt).mono ?_
        rintro e w' ⟨rfl, rfl⟩
        go_wp2_with fail
        refine (with_any (toK s k) (prm k) _ (by have := HK.out; omega) (by have := prm_lt ⟨k, hkt⟩; simp only at this; omega)).mono ?_
        rintro e w' ⟨rfl, rfl⟩
        go_wp2
        go_roundg (9 - (k + 1))
        case measure => go_light; have := hg.out; omega
        case rel => go_light; exact ⟨k + 1, by omega, rfl, by go_num, by rw [HN.out], rfl⟩
    · obtain rfl : k = 9 := by omega
      go_wp2
      go_ret
      exact ⟨rfl, rfl⟩
set_option maxHeartbeats 1000000 in
theorem iTurnedKind_any (s : Int) (w : World) : Calls Try.prog 41 #[.int .i64 s] w fun e w' => e = .returned (.int .i64 (tkW s)) ∧ Below w.heap.size w w' := by
  by_cases h0 : s < 0
  · have HE := hide (tkW_not (s := s) (by rw [Bool.and_eq_false_iff, decide_eq_false_iff_not]; exact .inl (by omega)))
    go_enter Try.func41, Try.ntmps41
    go_wp2
    go_ret
    exact ⟨ret_int HE.out.symm, Below.refl _ _⟩
  by_cases h1 : s ≥ 512
  · have HE := hide (tkW_not (s := s) (by rw [Bool.and_eq_false_iff, decide_eq_false_iff_not, decide_eq_false_iff_not]; exact .inr (by omega)))
    go_enter Try.func41, Try.ntmps41
    go_wp2
    go_ret
    exact ⟨ret_int HE.out.symm, Below.refl _ _⟩
  obtain ⟨n, rfl⟩ : ∃ n : Nat, s = n := ⟨s.toNat, by omega⟩
  have hn : n < 512 := by omega
  have HE := hide ((tkW_ok (s := n) (by omega)).trans (congrArg (fun x : Nat => (x : Int)) (toK_all ⟨n, hn⟩).symm))
  go_enter Try.func41, Try.ntmps41
  go_wp2_with fail
  refine (turnedK_any n _ hn).mono ?_
  rintro e w' ⟨rfl, rfl⟩
  go_wp2
  go_ret
  exact ⟨ret_int HE.out.symm, Below.refl _ _⟩
end Go.Proofs.Ythllbekoidogpaa

namespace Go.Proofs.Ythllbekoidogpaa
open Go.RowKit
set_option linter.unusedVariables false
set_option linter.unusedSimpArgs false
attribute [local go_sem] Oper.semAt_some

/-- What is handed over: a number, and both words. -/
def encI (k : Nat) : Array Value := #[.int .i64 k, .agg #[.string (bs (idU k)), .string (bs (idV k))]]
theorem range_pre {k n : Nat} (h : k < n) : List.range k ++ [k] <+: List.range n := by
  rw [← List.range_succ]
  have := List.take_prefix (k + 1) (List.range n)
  rwa [List.take_range, Nat.min_eq_left (by omega)] at this
theorem pre_range {s : List Nat} {k n : Nat} (h : s ++ [k] <+: List.range n) : k < n ∧ s = List.range k := by
  have e := List.prefix_iff_eq_take.1 h
  rw [List.take_range, List.length_append, List.length_singleton] at e
  have hl := h.length_le
  simp at hl
  rw [Nat.min_eq_left (by omega), List.range_succ] at e
  obtain ⟨e1, e2⟩ := List.append_inj' e rfl
  obtain rfl : k = s.length := by simpa using e2
  exact ⟨by omega, e1⟩
/-- All of them: as a value, and as they lie. -/
def idsC : Array Value := #[.string ⟨#[97, 97]⟩, .string ⟨#[97]⟩, .string ⟨#[97, 98]⟩, .string ⟨#[98, 97]⟩, .string ⟨#[97, 98]⟩, .string ⟨#[97]⟩, .string ⟨#[97, 98]⟩, .string ⟨#[98]⟩, .string ⟨#[97, 98, 97]⟩, .string ⟨#[97]⟩, .string ⟨#[97, 98, 97]⟩, .string ⟨#[97, 98]⟩, .string ⟨#[97, 98, 97]⟩, .string ⟨#[98, 97]⟩, .string ⟨#[97, 98, 99, 97]⟩, .string ⟨#[97, 99, 98, 97]⟩, .string ⟨#[97, 98, 97, 99, 97]⟩, .string ⟨#[97, 98, 99, 97]⟩]
def idsZ : Array Value := #[.string ⟨#[]⟩, .string ⟨#[]⟩, .string ⟨#[]⟩, .string ⟨#[]⟩, .string ⟨#[]⟩, .string ⟨#[]⟩, .string ⟨#[]⟩, .string ⟨#[]⟩, .string ⟨#[]⟩, .string ⟨#[]⟩, .string ⟨#[]⟩, .string ⟨#[]⟩, .string ⟨#[]⟩, .string ⟨#[]⟩, .string ⟨#[]⟩, .string ⟨#[]⟩, .string ⟨#[]⟩, .string ⟨#[]⟩]
def idsI : Value := .agg idsC
theorem ids_size : (Try.prog.info? 87).map (·.size) = some 18 := by kernel_rfl
theorem build_ids (w : World) : (Instr.build 87 #[(0, .agg #[.string ⟨#[97, 97]⟩, .string ⟨#[97]⟩]), (1, .agg #[.string ⟨#[97, 98]⟩, .string ⟨#[98, 97]⟩]), (2, .agg #[.string ⟨#[97, 98]⟩, .string ⟨#[97]⟩]), (3, .agg #[.string ⟨#[97, 98]⟩, .string ⟨#[98]⟩]), (4, .agg #[.string ⟨#[97, 98, 97]⟩, .string ⟨#[97]⟩]), (5, .agg #[.string ⟨#[97, 98, 97]⟩, .string ⟨#[97, 98]⟩]), (6, .agg #[.string ⟨#[97, 98, 97]⟩, .string ⟨#[98, 97]⟩]), (7, .agg #[.string ⟨#[97, 98, 99, 97]⟩, .string ⟨#[97, 99, 98, 97]⟩]), (8, .agg #[.string ⟨#[97, 98, 97, 99, 97]⟩, .string ⟨#[97, 98, 99, 97]⟩])]).run Try.prog w = .ok idsI w := by kernel_rfl
theorem alloc_ids (w : World) : (Instr.alloc 87 true (.tuple #[])).run Try.prog w = .ok (.pointer (some ⟨w.heap.size, 0, none⟩)) (w.alloc (.cells idsZ 87)) := by kernel_rfl
theorem store_ids (w : World) : (Instr.storeAt 87 (.pointer (some ⟨w.heap.size, 0, none⟩)) idsI).run Try.prog (w.alloc (.cells idsZ 87)) = .ok () (w.alloc (.cells idsC 87)) :=
  run_storeAt_new w 87 idsZ idsC ids_size rfl (by kernel_rfl)
theorem load_ids (w : World) : (Instr.loadAt 87 (.pointer (some ⟨w.heap.size, 0, none⟩))).run Try.prog (w.alloc (.cells idsC 87)) = .ok idsI (w.alloc (.cells idsC 87)) :=
  run_loadAt_new w 87 idsC 9 _ Try.underlying87 ids_size
section
variable {F : Fence} {n : Nat} {P : Program} {ops : Array Oper} {rest : List Oper} {o : Oper} {a : Act} {Q : Exit → Act → World → Prop} {w w' : World} {v : Value}
/-- An operation of which it is known what it answers. -/
theorem wpListIn_value (hg : o.guard = none) (hc : ∀ c, o.op ≠ .call c) (hd : ∀ c, o.op ≠ .defer c) (hr : (execOp a.eval o).run P w = .ok (.value v) w') (h : wpListIn F n P ops Q rest (a.put o.dst v) w') : wpListIn F n P ops Q (o :: rest) a w := by
  refine wpListIn_plain hg fun K hK => ?_
  unfold Oper.wpIn
  refine ⟨fun f hf => ?_, ?_⟩
  · have : o.about P w a.eval = none := by
      unfold Oper.about
      cases ho : o.op <;> first | rfl | exact absurd ho (hc _)
    rw [this] at hf; cases hf
  · rw [Oper.semAt_plain F _ _ hd, hr]
    exact hK _ _ h
theorem wpListIn_unit (hg : o.guard = none) (hc : ∀ c, o.op ≠ .call c) (hd : ∀ c, o.op ≠ .defer c) (hr : (execOp a.eval o).run P w = .ok .skip w') (h : wpListIn F n P ops Q rest (a.put o.dst undef) w') : wpListIn F n P ops Q (o :: rest) a w := by
  refine wpListIn_plain hg fun K hK => ?_
  unfold Oper.wpIn
  refine ⟨fun f hf => ?_, ?_⟩
  · have : o.about P w a.eval = none := by
      unfold Oper.about
      cases ho : o.op <;> first | rfl | exact absurd ho (hc _)
    rw [this] at hf; cases hf
  · rw [Oper.semAt_plain F _ _ hd, hr]
    exact hK _ _ h
theorem wpListIn_build {t : TypeId} {ps : Array (Nat × Operand)} (hg : o.guard = none) (ho : o.op = .build t ps) (hr : (Instr.build t (ps.map fun (i, x) => (i, a.eval x))).run P w = .ok v w') (h : wpListIn F n P ops Q rest (a.put o.dst v) w') : wpListIn F n P ops Q (o :: rest) a w :=
  wpListIn_value hg (fun c e => by rw [ho] at e; cases e) (fun c e => by rw [ho] at e; cases e) (by simp only [execOp, ho, Sem.run_bind, hr]; rfl) h
theorem wpListIn_alloc {t : TypeId} (hg : o.guard = none) (ho : o.op = .alloc t) (hr : (Instr.alloc t true (.tuple #[])).run P w = .ok v w') (h : wpListIn F n P ops Q rest (a.put o.dst v) w') : wpListIn F n P ops Q (o :: rest) a w :=
  wpListIn_value hg (fun c e => by rw [ho] at e; cases e) (fun c e => by rw [ho] at e; cases e) (by simp only [execOp, ho, Sem.run_bind, hr]; rfl) h
theorem wpListIn_load {t : TypeId} {x : Operand} (hg : o.guard = none) (ho : o.op = .load t x) (hr : (Instr.loadAt t (a.eval x)).run P w = .ok v w') (h : wpListIn F n P ops Q rest (a.put o.dst v) w') : wpListIn F n P ops Q (o :: rest) a w :=
  wpListIn_value hg (fun c e => by rw [ho] at e; cases e) (fun c e => by rw [ho] at e; cases e) (by simp only [execOp, ho, Sem.run_bind, hr]; rfl) h
theorem wpListIn_store {t : TypeId} {x y : Operand} (hg : o.guard = none) (ho : o.op = .store t x y) (hr : (Instr.storeAt t (a.eval x) (a.eval y)).run P w = .ok () w') (h : wpListIn F n P ops Q rest (a.put o.dst undef) w') : wpListIn F n P ops Q (o :: rest) a w :=
  wpListIn_unit hg (fun c e => by rw [ho] at e; cases e) (fun c e => by rw [ho] at e; cases e) (by simp only [execOp, ho, Sem.run_bind, hr]; rfl) h
end
theorem idx_ids (k : Nat) (hk : k < 9) (w : World) : (Instr.index 87 idsI (.int .i64 k)).run Try.prog w = .ok (.agg #[.string (bs (idU k)), .string (bs (idV k))]) w := by
  have hu := Try.underlying87
  unfold idsI idsC
  obtain rfl | rfl | rfl | rfl | rfl | rfl | rfl | rfl | rfl : k = 0 ∨ k = 1 ∨ k = 2 ∨ k = 3 ∨ k = 4 ∨ k = 5 ∨ k = 6 ∨ k = 7 ∨ k = 8 := by omega
  all_goals
    simp [Instr.index, run_underlying hu, asIntOf, go_sem]
    try exact ⟨rfl, rfl⟩

set_option maxRecDepth 100000 in
set_option maxHeartbeats 4000000 in
theorem named_hands (w : World) : Hands Try.prog 64 (fun l => #[] ++ #[.func (.yield l) #[] #[]] ++ #[]) encI (List.range 9) w := by
  intro l J Jx X W hW hX hJ hJx h0 hY m
  have HY := hide hY
  have HX := hide idx_ids
  have HJ := hide h0
  clear hY h0
  refine callsIn_of_wp Try.func64 rfl trivial ?_ rfl
  simp only [Try.ntmps64, List.size_toArray, List.length_cons, List.length_nil, Nat.reduceAdd, Nat.reduceSub, Array.replicate_succ, Array.replicate_zero, List.push_toArray, List.append_toArray, List.nil_append, List.cons_append]
  gi_wp2_with (first
    | (refine wpListIn_build (t := 87) rfl rfl (build_ids _) ?_)
    | (refine wpListIn_alloc (t := 87) rfl rfl (alloc_ids _) ?_)
    | (refine wpListIn_store (t := 87) rfl rfl (store_ids _) ?_)
    | (refine wpListIn_load (t := 87) rfl rfl (load_ids _) ?_))
  have b0 := (Below.refl W.heap.size W).alloc (Nat.le_refl _) (.cells idsC 87)
  have HI := hide (hJ.move HJ.out (b0.mono (Nat.zero_le _)) (fun b _ hlt => b0.block b hlt))
  clear b0
  gi_loopw [16] (fun i wr => ∃ (k : Nat) (Z : Nat → Prop), k ≤ 9 ∧ i = .int .i64 k ∧ Hid (J (List.range k) Z wr)) (fun i _ => 9 - (intOf i).toNat)
  case atStart => exact ⟨0, X, Nat.zero_le _, rfl, HI.out⟩
  case round =>
    clear HI HJ
    obtain ⟨k, Z, hk, rfl, hj⟩ := hrel
    by_cases hlt : k < 9
    · have hki : (k : Int) < 9 := by omega
      have hix := HX.out k hlt
      have bV := (Below.refl wr.heap.size wr).alloc (Nat.le_refl _) (.cells #[.string (bs (idU k)), .string (bs (idV k))] 68)
      obtain ⟨fn', tm', as', bd', hy, hRy⟩ := HY.out (List.range k) k Z (wr.alloc (.cells #[.string (bs (idU k)), .string (bs (idV k))] 68)) (m - 1) (hJ.move hj.out (bV.mono (Nat.zero_le _)) (fun b _ hlt => bV.block b hlt)) (range_pre hlt)
      rw [← List.range_succ] at hRy
      unfold encI at hy
      try dsimp only at hy
      have HRY := hide hRy
      have HP := hide (And.intro hix hlt)
      clear hRy bV hlt
      generalize bs (idU k) = p at hix hy HRY
      generalize bs (idV k) = q at hix hy HRY
      gi_wp2
      refine ⟨(fun hd => by simp [Fence.wide] at hd), RoundIn.mono (show RoundIn Fence.wide (m - 1) _ _ _ _ _ _ _ _ from HRY.out) ?_⟩
      rintro e U4 ⟨Z4, hg4, hk4, ⟨rfl, hj4⟩ | ⟨rfl, hj4⟩⟩
      · have HN := hide hj4
        have HL := hide (HP.out).2
        clear hj4 hg4 hk4 hix hy HRY
        gi_wp2
        go_roundw
        case rel => exact ⟨k + 1, Z4, by have := HL.out; omega, by go_num, HN.out⟩
        case measure => simp [intOf]; have := HL.out; omega
      · gi_wp2
        refine bodyPost_ret (results_none rfl _ _ _) rfl ?_
        exact ⟨⟨_, rfl⟩, .inr ⟨_, Z4, hj4⟩⟩
    · obtain rfl : k = 9 := by omega
      gi_wp2
      go_end0
      exact ⟨⟨_, rfl⟩, .inl ⟨Z, hj.out⟩⟩
end Go.Proofs.Ythllbekoidogpaa

namespace Go.Proofs.Ythllbekoidogpaa
open Go.RowKit
set_option linter.unusedVariables false
set_option linter.unusedSimpArgs false
attribute [local go_sem] Oper.semAt_some

theorem bxBelowI {W V : World} {B : Nat} {ty : TypeId} {v : Value} (h : Boxed W B ty v) (hb : Below W.heap.size W V) : Boxed V B ty v := (hb.block B h.lt).trans h
theorem bxPutI {W : World} {B l : Nat} {ty : TypeId} {v : Value} (h : Boxed W B ty v) (o : Obj) (hl : B ≠ l) : Boxed (W.putObj l o) B ty v := (World.putObj_heap_other hl).trans h
theorem bxOtherI {W : World} {B p : Nat} {ty : TypeId} {v : Value} (h : Boxed W B ty v) (u : Value) (hp : B ≠ p) : Boxed (W.setCell ⟨p, 0, none⟩ u) B ty v := h.kept (grownBy_setCell' W p u) (fun e => hp (by simpa using e))
theorem below_putI {n l : Nat} {W : World} (o : Obj) (h : n ≤ l) : Below n W (W.putObj l o) := ⟨rfl, rfl, rfl, by simp, fun k hk => World.putObj_heap_other (by omega)⟩
theorem below_twiceI (w : World) (o o' : Obj) : Below w.heap.size w ((w.alloc o).alloc o') := ((Below.refl _ w).alloc (Nat.le_refl _) o).alloc (by simp) o'

/-- The blocks of three results, one after the other. -/
def threeI (B b : Nat) : Prop := b = B + 1 ∨ b = B + 2 ∨ b = B + 3
/-- Under way: the number asked for, and three results. -/
structure WayI (w : World) (n : Int) (u v : ByteArray) (ok : Bool) (X : Nat → Prop) (V : World) : Prop where
  low : Below w.heap.size w V
  num : Boxed V w.heap.size 3 (.int .i64 n)
  fst : Boxed V (w.heap.size + 1) 9 (.string u)
  snd : Boxed V (w.heap.size + 2) 9 (.string v)
  thd : Boxed V (w.heap.size + 3) 4 (.bool ok)
  own : ∀ b, X b ↔ threeI w.heap.size b
section
variable {w V V' : World} {n : Int} {u v : ByteArray} {ok : Bool} {X : Nat → Prop}
theorem WayI.there (h : WayI w n u v ok X V) : ∀ b, X b → b < V.heap.size := fun b hb => by
  rcases (h.own b).1 hb with rfl | rfl | rfl
  · exact h.fst.lt
  · exact h.snd.lt
  · exact h.thd.lt
theorem WayI.move (h : WayI w n u v ok X V) {B : Nat} (hB : w.heap.size + 1 ≤ B) (hl : Below 0 V V') (hs : ∀ b, (b < B ∨ X b) → b < V.heap.size → V'.heap[b]? = V.heap[b]?) : WayI w n u v ok X V' :=
  ⟨⟨hl.os.trans h.low.os, hl.tape.trans h.low.tape, hl.output.trans h.low.output, Nat.le_trans h.low.size hl.size, fun k hk => (hs k (.inl (by omega)) (by have := h.low.size; omega)).trans (h.low.block k hk)⟩,
   (hs _ (.inl (by omega)) h.num.lt).trans h.num, (hs _ (.inr ((h.own _).2 (.inl rfl))) h.fst.lt).trans h.fst, (hs _ (.inr ((h.own _).2 (.inr (.inl rfl)))) h.snd.lt).trans h.snd, (hs _ (.inr ((h.own _).2 (.inr (.inr rfl)))) h.thd.lt).trans h.thd, h.own⟩
theorem WayI.put (h : WayI w n u v ok X V) {u' v' : ByteArray} {ok' : Bool} (h1 : Boxed V' (w.heap.size + 1) 9 (.string u')) (h2 : Boxed V' (w.heap.size + 2) 9 (.string v')) (h3 : Boxed V' (w.heap.size + 3) 4 (.bool ok'))
    (hl : Below 0 V V') (hs : ∀ b, ¬ X b → b < V.heap.size → V'.heap[b]? = V.heap[b]?) : WayI w n u' v' ok' X V' :=
  ⟨⟨hl.os.trans h.low.os, hl.tape.trans h.low.tape, hl.output.trans h.low.output, Nat.le_trans h.low.size hl.size, fun k hk => (hs k (fun hx => by rcases (h.own _).1 hx with e | e | e <;> omega) (by have := h.low.size; omega)).trans (h.low.block k hk)⟩,
   (hs _ (fun hx => by rcases (h.own _).1 hx with e | e | e <;> omega) h.num.lt).trans h.num, h1, h2, h3, h.own⟩
theorem WayI.done (h : WayI w n u v ok X V) (u' v' : ByteArray) (ok' : Bool) : WayI w n u' v' ok' X (((V.setCell ⟨w.heap.size + 1, 0, none⟩ (.string u')).setCell ⟨w.heap.size + 2, 0, none⟩ (.string v')).setCell ⟨w.heap.size + 3, 0, none⟩ (.bool ok')) ∧
    Kept V.heap.size X V (((V.setCell ⟨w.heap.size + 1, 0, none⟩ (.string u')).setCell ⟨w.heap.size + 2, 0, none⟩ (.string v')).setCell ⟨w.heap.size + 3, 0, none⟩ (.bool ok')) := by
  have hl := (((Below.refl 0 V).setCell (p := ⟨w.heap.size + 1, 0, none⟩) (Nat.zero_le _) (.string u')).setCell (p := ⟨w.heap.size + 2, 0, none⟩) (Nat.zero_le _) (.string v')).setCell (p := ⟨w.heap.size + 3, 0, none⟩) (Nat.zero_le _) (.bool ok')
  have hs : ∀ b, ¬ X b → (((V.setCell ⟨w.heap.size + 1, 0, none⟩ (.string u')).setCell ⟨w.heap.size + 2, 0, none⟩ (.string v')).setCell ⟨w.heap.size + 3, 0, none⟩ (.bool ok')).heap[b]? = V.heap[b]? := fun b hb =>
    (Below.heap_setCell _ _ _ b (fun e => hb ((h.own b).2 (.inr (.inr e))))).trans ((Below.heap_setCell _ _ _ b (fun e => hb ((h.own b).2 (.inr (.inl e))))).trans (Below.heap_setCell _ _ _ b (fun e => hb ((h.own b).2 (.inl e)))))
  exact ⟨h.put (bxOtherI (bxOtherI (h.fst.set _) _ (by omega)) _ (by omega)) (bxOtherI ((bxOtherI h.snd _ (by omega)).set _) _ (by omega)) ((bxOtherI (bxOtherI h.thd _ (by omega)) _ (by omega)).set _) hl (fun b hb _ => hs b hb), hl, fun b _ hb => hs b hb⟩
theorem WayI.drew (h : WayI w n u v ok X V) : WayI w n u v ok X V.drew := h.move (B := w.heap.size + 1) (Nat.le_refl _) ((Below.refl 0 V).drew) (fun b _ hb => ((Below.refl V.heap.size V).drew).block b hb)
end
theorem rests_way (w : World) (n : Int) (B : Nat) (hB : w.heap.size + 1 ≤ B) : Rests B (fun (s : List Nat) X V => WayI w n ⟨#[]⟩ ⟨#[]⟩ false X V ∧ ∀ k ∈ s, n ≠ (k : Int)) :=
  ⟨fun h => h.1.there, fun h hl hs => ⟨h.1.move hB hl hs, h.2⟩⟩
theorem rests_found (w : World) (n : Int) (B : Nat) (hB : w.heap.size + 1 ≤ B) : Rests B (fun (s : List Nat) X V => ∃ k : Nat, k < 9 ∧ n = (k : Int) ∧ WayI w n (bs (idU k)) (bs (idV k)) true X V) :=
  ⟨fun h => by obtain ⟨k, _, _, h⟩ := h; exact h.there, fun h hl hs => by obtain ⟨k, h1, h2, h⟩ := h; exact ⟨k, h1, h2, h.move hB hl hs⟩⟩
set_option maxHeartbeats 1000000 in
theorem res_id (tmps : Array Value) (B : Nat) (u v : ByteArray) (ok : Bool) (W : World) (h1 : W.cell? ⟨B + 1, 0, none⟩ = some (.string u)) (h2 : W.cell? ⟨B + 2, 0, none⟩ = some (.string v)) (h3 : W.cell? ⟨B + 3, 0, none⟩ = some (.bool ok))
    (e1 : tmps.getD 2 undef = .pointer (some ⟨B + 1, 0, none⟩)) (e2 : tmps.getD 3 undef = .pointer (some ⟨B + 2, 0, none⟩)) (e3 : tmps.getD 4 undef = .pointer (some ⟨B + 3, 0, none⟩)) :
    (results Try.f27 tmps).run Try.prog W = .ok (.tuple #[.string u, .string v, .bool ok]) W := by
  have e1' : tmps[2]?.getD undef = .pointer (some ⟨B + 1, 0, none⟩) := by simpa using e1
  have e2' : tmps[3]?.getD undef = .pointer (some ⟨B + 2, 0, none⟩) := by simpa using e2
  have e3' : tmps[4]?.getD undef = .pointer (some ⟨B + 3, 0, none⟩) := by simpa using e3
  simp [results, Try.f27, asAddr, e1', e2', e3', go_sem, h1, h2, h3]

set_option maxRecDepth 100000 in
set_option maxHeartbeats 4000000 in
theorem iIdentityAt_any (n : Int) (w : World) : Calls Try.prog 27 #[.int .i64 n] w fun e w' => e = .returned (.tuple #[.string (bs (iuW n)), .string (bs (ivW n)), .bool (inI n)]) ∧ Below w.heap.size w w' := by
  obtain ⟨w1, hw1⟩ : ∃ w1, w1 = (((w.alloc (.cells #[.int .i64 n] 3)).alloc (.cells #[.string ⟨#[]⟩] 9)).alloc (.cells #[.string ⟨#[]⟩] 9)).alloc (.cells #[.bool false] 4) := ⟨_, rfl⟩
  have z1 : w1.heap.size = w.heap.size + 4 := by rw [hw1]; simp
  have hway : WayI w n ⟨#[]⟩ ⟨#[]⟩ false (threeI w.heap.size) w1 := by
    have x0 := ((((Boxed.new w 3 (.int .i64 n)).alloc (.cells #[.string ⟨#[]⟩] 9)).alloc (.cells #[.string ⟨#[]⟩] 9)).alloc (.cells #[.bool false] 4))
    have x1 := Boxed.new (w.alloc (.cells #[.int .i64 n] 3)) 9 (.string ⟨#[]⟩)
    rw [World.size_alloc] at x1
    have x2 := Boxed.new ((w.alloc (.cells #[.int .i64 n] 3)).alloc (.cells #[.string ⟨#[]⟩] 9)) 9 (.string ⟨#[]⟩)
    rw [World.size_alloc, World.size_alloc] at x2
    have x3 := Boxed.new (((w.alloc (.cells #[.int .i64 n] 3)).alloc (.cells #[.string ⟨#[]⟩] 9)).alloc (.cells #[.string ⟨#[]⟩] 9)) 4 (.bool false)
    rw [World.size_alloc, World.size_alloc, World.size_alloc] at x3
    rw [hw1]
    exact ⟨((below_twiceI w _ _).alloc (by simp; omega) _).alloc (by simp; omega) _, x0, (x1.alloc _).alloc _, x2.alloc _, x3, fun b => Iff.rfl⟩
  have HW1 := hide hw1
  have HWY := hide hway
  clear hw1 hway
  refine (callsIn_wide (n := 9)).1 ?_
  refine callsIn_of_wp_marks Try.func27 rfl trivial ?_ rfl
  simp only [Try.ntmps27, List.size_toArray, List.length_cons, List.length_nil, Nat.reduceAdd, Nat.reduceSub, Array.replicate_succ, Array.replicate_zero, List.push_toArray, List.append_toArray, List.nil_append, List.cons_append]
  gi_wp2
  rw [← HW1.out, show w.heap.size + 1 + 1 + 1 = w.heap.size + 3 from rfl, show w.heap.size + 1 + 1 = w.heap.size + 2 from rfl]
  refine range_top (α := Nat) (gf := 64) (fa := #[]) (lb := #[]) (enc := encI) (xs := List.range 9) (w0 := w) rfl (enters_of Try.func64 (by kernel_rfl) rfl) (fun _ => rfl) (named_hands w) HWY.out.low
    (fun s X V => WayI w n ⟨#[]⟩ ⟨#[]⟩ false X V ∧ ∀ k ∈ s, n ≠ (k : Int)) (fun s X V => ∃ k : Nat, k < 9 ∧ n = (k : Int) ∧ WayI w n (bs (idU k)) (bs (idV k)) true X V) (threeI w.heap.size)
    (rests_way w n _ (by omega)) (rests_found w n _ (by omega)) (fun b hb => by rcases hb with rfl | rfl | rfl <;> omega) ⟨HWY.out, fun k hk => by cases hk⟩ ?round ?done ?stop
  case round =>
    intro l1 m1 hl1 t k X V hI nX ltV hpre
    obtain ⟨hk, rfl⟩ := pre_range hpre
    clear hpre
    clear hI
    have bV := (Below.refl V.heap.size V).alloc (Nat.le_refl _) (.cells #[.string (bs (idU k)), .string (bs (idV k))] 68)
    have eV : (V.alloc (.cells #[.string (bs (idU k)), .string (bs (idV k))] 68)).heap[V.heap.size]? = some (.cells #[.string (bs (idU k)), .string (bs (idV k))] 68) := heap_alloc_new V _
    have zV : (V.alloc (.cells #[.string (bs (idU k)), .string (bs (idV k))] 68)).heap.size = V.heap.size + 1 := by simp
    have HBV := hide bV
    have HEV := hide eV
    have HZV := hide zV
    clear bV eV zV
    unfold encI
    gi_wp2
    refine ⟨Kept.of HBV.out _, fun V2 r hb2 hz2 ho2 hl2 hi2 => ?_⟩
    obtain ⟨hw2, hno⟩ := hi2
    have e2 := (ho2 V.heap.size (by omega)).trans HEV.out
    rw [HZV.out] at hz2
    have c0 : V2.cell? ⟨V.heap.size, 0, none⟩ = some (.string (bs (idU k))) := by rw [cell_of_row V2 V.heap.size 0 _ _ _ e2]; rfl
    have c1 : V2.cell? ⟨V.heap.size, 1, none⟩ = some (.string (bs (idV k))) := by rw [cell_of_row V2 V.heap.size 1 _ _ _ e2]; rfl
    have cn := hw2.num.cell
    have HNO := hide hno
    have HWA := hide hw2
    have HZ2 := hide hz2
    have HR := hide (show Below 0 (V.alloc (.cells #[.string (bs (idU k)), .string (bs (idV k))] 68)) V2 from hb2)
    have HK := hide hk
    clear hb2 hz2 ho2 hno e2 hk
    by_cases hkn : (k : Int) = n
    · subst hkn
      have f1 := hw2.fst.frozen
      have f2 := hw2.snd.frozen
      have f3 := hw2.thd.frozen
      have d1 := hw2.fst.cell
      have d2 := hw2.snd.cell
      have d3 := hw2.thd.cell
      obtain ⟨p, hp⟩ : ∃ p, p = bs (idU k) := ⟨_, rfl⟩
      obtain ⟨q, hq⟩ : ∃ q, q = bs (idV k) := ⟨_, rfl⟩
      rw [← hp] at c0
      rw [← hq] at c1
      have HP := hide (And.intro hp.symm hq.symm)
      rw [← hp, ← hq]
      clear hp hq HBV HEV HZV HR
      clear hw2
      have HF := hide (HWA.out.done p q true)
      gi_wp2
      gi_region
      all_goals
        gi_wp2
        exact ⟨X, fun b hb => .inl hb, (HF.out.2.trans (Kept.of (Below.drew (Below.refl _ _)) _)).mono (by have := HZ2.out; omega) (fun b hb => hb), k, HK.out, rfl, by rw [HP.out.1, HP.out.2]; exact HF.out.1.drew⟩
    · have hne : ((k : Int) == n) = false := beq_eq_false_iff_ne.2 hkn
      have HKN := hide hkn
      clear hkn hw2
      gi_wp2
      refine ⟨X, fun b hb => .inl hb, Kept.refl _ _ _, HWA.out, fun j hj => ?_⟩
      rcases List.mem_append.1 hj with hj | hj
      · exact HNO.out j hj
      · rw [List.mem_singleton] at hj
        subst hj
        exact fun e => HKN.out e.symm
  case done =>
    rintro X V ⟨hw, hno⟩ nD hD
    have hin : inI n = false := by
      unfold inI
      rw [Bool.and_eq_false_iff, decide_eq_false_iff_not, decide_eq_false_iff_not]
      by_cases h0 : 0 ≤ n
      · refine .inr fun h8 => hno n.toNat (List.mem_range.2 (by omega)) (by omega)
      · exact .inl h0
    have HE := hide (And.intro (iuW_not hin) (And.intro (ivW_not hin) hin))
    have HF := hide (hw.done ⟨#[]⟩ ⟨#[]⟩ false)
    have f1 := hw.fst.frozen
    have f2 := (bxOtherI hw.snd (.string ⟨#[]⟩) (by omega : w.heap.size + 2 ≠ w.heap.size + 1)).frozen
    have f3 := (bxOtherI (bxOtherI hw.thd (.string ⟨#[]⟩) (by omega : w.heap.size + 3 ≠ w.heap.size + 1)) (.string ⟨#[]⟩) (by omega : w.heap.size + 3 ≠ w.heap.size + 2)).frozen
    have d1 := hw.fst.cell
    have d2 := (bxOtherI hw.snd (.string ⟨#[]⟩) (by omega : w.heap.size + 2 ≠ w.heap.size + 1)).cell
    have d3 := (bxOtherI (bxOtherI hw.thd (.string ⟨#[]⟩) (by omega : w.heap.size + 3 ≠ w.heap.size + 1)) (.string ⟨#[]⟩) (by omega : w.heap.size + 3 ≠ w.heap.size + 2)).cell
    have hD3 := ((HF.out.2).same w1.heap.size (Array.getElem?_eq_some_iff.1 hD).1 nD).trans hD
    have HD := hide hD3
    have HZ1 := hide z1
    clear hw hno hin hD hD3 z1
    gi_wp2
    have hw2 := HF.out.1
    have z1 := HZ1.out
    refine ⟨by simp, .inl ⟨_, _, rfl, run_takeDeferred HD.out, ?_⟩⟩
    refine ⟨_, res_id _ w.heap.size _ _ _ _ (bxPutI hw2.fst (.deferred none) (by omega)).cell (bxPutI hw2.snd (.deferred none) (by omega)).cell (bxPutI hw2.thd (.deferred none) (by omega)).cell rfl rfl rfl, ?_, hw2.low.trans (below_putI _ (by omega))⟩
    rw [HE.out.1, HE.out.2.1, HE.out.2.2]
    rfl
  case stop =>
    rintro s X V ⟨k, hk, rfl, hw⟩ nD hD
    have hin : inI (k : Int) = true := by unfold inI; rw [Bool.and_eq_true, decide_eq_true_iff, decide_eq_true_iff]; omega
    have e1 : iuW (k : Int) = idU k := by unfold iuW; rw [hin]; rfl
    have e2 : ivW (k : Int) = idV k := by unfold ivW; rw [hin]; rfl
    gi_wp2
    refine ⟨by simp, .inl ⟨_, _, rfl, run_takeDeferred hD, ?_⟩⟩
    refine ⟨_, res_id _ w.heap.size _ _ _ _ (bxPutI hw.fst (.deferred none) (by omega)).cell (bxPutI hw.snd (.deferred none) (by omega)).cell (bxPutI hw.thd (.deferred none) (by omega)).cell rfl rfl rfl, ?_, hw.low.trans (below_putI _ (by omega))⟩
    rw [e1, e2, hin]
end Go.Proofs.Ythllbekoidogpaa

namespace Go.Proofs.Ythllbekoidogpaa
open Go.RowKit
set_option linter.unusedVariables false
set_option linter.unusedSimpArgs false
attribute [local go_sem] Oper.semAt_some

/-- Under way: the table, and the set so far. -/
structure WayJ (w : World) (A : Option Addr) (ca : Nat) (T : List (List Int)) (m : Nat) (X : Nat → Prop) (V : World) : Prop where
  low : Below w.heap.size w V
  tab : Boxed V w.heap.size 23 (.slice A T.length ca)
  set : Boxed V (w.heap.size + 1) 70 (.int .i64 (msk (fun k => hldW T (idU k) (idV k)) m : Nat))
  own : ∀ b, X b ↔ b = w.heap.size + 1
section
variable {w V V' : World} {A : Option Addr} {ca : Nat} {T : List (List Int)} {m : Nat} {X : Nat → Prop}
theorem WayJ.move (h : WayJ w A ca T m X V) {B : Nat} (hB : w.heap.size + 1 ≤ B) (hl : Below 0 V V') (hs : ∀ b, (b < B ∨ X b) → b < V.heap.size → V'.heap[b]? = V.heap[b]?) : WayJ w A ca T m X V' :=
  ⟨⟨hl.os.trans h.low.os, hl.tape.trans h.low.tape, hl.output.trans h.low.output, Nat.le_trans h.low.size hl.size, fun k hk => (hs k (.inl (by omega)) (by have := h.low.size; omega)).trans (h.low.block k hk)⟩,
   (hs _ (.inl (by omega)) h.tab.lt).trans h.tab, (hs _ (.inr ((h.own _).2 rfl)) h.set.lt).trans h.set, h.own⟩
theorem WayJ.below (h : WayJ w A ca T m X V) (hb : Below V.heap.size V V') : WayJ w A ca T m X V' :=
  ⟨h.low.trans (hb.mono h.low.size), bxBelowI h.tab hb, bxBelowI h.set hb, h.own⟩
theorem rests_wayJ (w : World) (A : Option Addr) (ca : Nat) (T : List (List Int)) (B : Nat) (hB : w.heap.size + 1 ≤ B) : Rests B (fun (s : List Nat) X V => WayJ w A ca T s.length X V) :=
  ⟨fun h b hb => by have := (h.own b).1 hb; subst this; exact h.set.lt, fun h hl hs => h.move hB hl hs⟩
end
set_option maxRecDepth 100000 in
set_option maxHeartbeats 4000000 in
theorem iKindOf_any (A : Option Addr) (ca lo hi : Nat) (T : List (List Int)) (w : World) (h : Mat w lo hi A T) (hh : hi ≤ w.heap.size) (hS : Small T) :
    Calls Try.prog 31 #[.slice A T.length ca] w fun e w' => e = .returned (.int .i64 (kinW T)) ∧ Below w.heap.size w w' := by
  obtain ⟨w1, hw1⟩ : ∃ w1, w1 = w.alloc (.cells #[.slice A T.length ca] 23) := ⟨_, rfl⟩
  have b1 : Below w.heap.size w w1 := by rw [hw1]; exact (Below.refl w.heap.size w).alloc (Nat.le_refl _) _
  have z1 : w1.heap.size = w.heap.size + 1 := by rw [hw1]; simp
  have x1 : Boxed w1 w.heap.size 23 (.slice A T.length ca) := by rw [hw1]; exact Boxed.new w _ _
  have hT1 := h.below b1 hh
  cases hk : okT T
  · have HE := hide (kinW_not hk)
    have HW1 := hide hw1
    have c1 := x1.cell
    clear hw1
    go_enter Try.func31, Try.ntmps31
    go_wp2_with fail
    rw [← HW1.out]
    refine (iTableOk_any _ _ _ _ _ _ hT1 hS).mono ?_
    rw [hk]
    rintro e w' ⟨rfl, rfl⟩
    go_wp2
    go_ret
    exact ⟨ret_int HE.out.symm, b1⟩
  · have HE := hide (kinW_ok hk)
    have HW1 := hide hw1
    have c1 := x1.cell
    obtain ⟨w2, hw2⟩ : ∃ w2, w2 = w1.alloc (.cells #[.int .i64 0] 70) := ⟨_, rfl⟩
    have b2 : Below w1.heap.size w1 w2 := by rw [hw2]; exact (Below.refl _ _).alloc (Nat.le_refl _) _
    have z2 : w2.heap.size = w.heap.size + 2 := by rw [hw2]; simp; omega
    have x2 : Boxed w2 (w.heap.size + 1) 70 (.int .i64 (msk (fun k => hldW T (idU k) (idV k)) 0 : Nat)) := by rw [hw2, ← z1]; exact Boxed.new w1 _ _
    have HWY := hide (show WayJ w A ca T 0 (fun b => b = w.heap.size + 1) w2 from ⟨b1.trans (b2.mono b1.size), bxBelowI x1 b2, x2, fun b => Iff.rfl⟩)
    have HW2 := hide hw2
    have HH := hide (And.intro h hh)
    clear hw1 hw2 b2 x2 x1 h hh
    refine (callsIn_wide (n := 9)).1 ?_
    refine callsIn_of_wp_marks Try.func31 rfl trivial ?_ rfl
    simp only [Try.ntmps31, List.size_toArray, List.length_cons, List.length_nil, Nat.reduceAdd, Nat.reduceSub, Array.replicate_succ, Array.replicate_zero, List.push_toArray, List.append_toArray, List.nil_append, List.cons_append]
    gi_wp2_with fail
    rw [← HW1.out]
    refine ⟨trivial, (callsIn_wide.2 (iTableOk_any _ _ _ _ _ _ hT1 hS)).mono ?_⟩
    rw [hk]
    rintro e w' ⟨rfl, rfl⟩
    clear hk hT1 c1
    gi_wp2
    rw [← HW2.out]
    try rw [z1]
    have HZ := hide z1
    clear z1
    refine range_top (α := Nat) (gf := 64) (fa := #[]) (lb := #[]) (enc := encI) (xs := List.range 9) (w0 := w) rfl (enters_of Try.func64 (by kernel_rfl) rfl) (fun _ => rfl) (named_hands w) HWY.out.low
      (fun s X V => WayJ w A ca T s.length X V) (fun s X V => False) (fun b => b = w.heap.size + 1)
      (rests_wayJ w A ca T _ (by omega)) (rests_false _) (fun b hb => by omega) HWY.out ?round ?done ?stop
    case round =>
      intro l1 m1 hl1 t k X V hI nX ltV hpre
      obtain ⟨hk, rfl⟩ := pre_range hpre
      clear hpre hI
      have bV := (Below.refl V.heap.size V).alloc (Nat.le_refl _) (.cells #[.string (bs (idU k)), .string (bs (idV k))] 68)
      have eV : (V.alloc (.cells #[.string (bs (idU k)), .string (bs (idV k))] 68)).heap[V.heap.size]? = some (.cells #[.string (bs (idU k)), .string (bs (idV k))] 68) := heap_alloc_new V _
      have zV : (V.alloc (.cells #[.string (bs (idU k)), .string (bs (idV k))] 68)).heap.size = V.heap.size + 1 := by simp
      have HBV := hide bV
      have HEV := hide eV
      have HZV := hide zV
      clear bV eV zV
      unfold encI
      gi_wp2
      refine ⟨Kept.of HBV.out _, fun V2 r hb2 hz2 ho2 hl2 hi2 => ?_⟩
      rw [List.length_range] at hi2
      have e2 := (ho2 V.heap.size (by omega)).trans HEV.out
      rw [HZV.out] at hz2
      have c0 : V2.cell? ⟨V.heap.size, 0, none⟩ = some (.string (bs (idU k))) := by rw [cell_of_row V2 V.heap.size 0 _ _ _ e2]; rfl
      have c1 : V2.cell? ⟨V.heap.size, 1, none⟩ = some (.string (bs (idV k))) := by rw [cell_of_row V2 V.heap.size 1 _ _ _ e2]; rfl
      have ct := hi2.tab.cell
      have HWA := hide hi2
      have HZ2 := hide hz2
      have HK := hide hk
      have n1 : (idU k).length ≤ 1048576 := by have := (okW_iff.1 (idU_ok hk)).2.2; omega
      have n2 : (idV k).length ≤ 1048576 := by have := (okW_iff.1 (idV_ok hk)).2.2; omega
      have hml : msk (fun k => hldW T (idU k) (idV k)) k < 1024 := Nat.lt_of_lt_of_le (msk_lt _ k) (Nat.le_trans (Nat.pow_le_pow_right (n := 2) (by omega) (show k ≤ 10 by omega)) (by decide))
      have hmo := msk_or (fun k => hldW T (idU k) (idV k)) k
      have HN := hide (And.intro n1 (And.intro n2 (And.intro hml hmo)))
      clear hb2 hz2 ho2 e2 hk hi2 n1 n2 hml hmo HBV HEV HZV
      gi_wp2_with fail
      refine ⟨trivial, (fun hd => by simp [Fence.wide] at hd), (CallsIn.inRound _ (callsIn_wide.2 (iHoldsIn_any A ca lo hi T (idU k) (idV k) V2 (HH.out.1.below HWA.out.low HH.out.2) (Nat.le_trans HH.out.2 HWA.out.low.size) hS HN.out.1 HN.out.2.1))).mono ?_⟩
      rintro e V3 ⟨rfl, b3⟩
      have HW3 := hide (HWA.out.below b3)
      have HB3 := hide b3
      have cf := HW3.out.set.cell
      have ff := HW3.out.set.frozen
      clear ct c0 c1 b3
      cases hd : hldW T (idU k) (idV k)
      · have hm : msk (fun k => hldW T (idU k) (idV k)) (k + 1) = msk (fun k => hldW T (idU k) (idV k)) k := by rw [HN.out.2.2.2, hd]; simp
        have HM := hide hm
        clear hm
        gi_wp2
        refine ⟨X, fun b hb => .inl hb, (Kept.of HB3.out _).mono (by have := HZ2.out; omega) (fun b hb => hb), ?_⟩
        have q := HW3.out
        show WayJ w A ca T (List.range k ++ [k]).length X _
        rw [List.length_append, List.length_range, List.length_singleton]
        exact ⟨q.low, q.tab, by rw [HM.out]; exact q.set, q.own⟩
      · have hm : msk (fun k => hldW T (idU k) (idV k)) (k + 1) = msk (fun k => hldW T (idU k) (idV k)) k ||| 2 ^ k := by rw [HN.out.2.2.2, hd]; simp
        have HM := hide hm
        have hml := HN.out.2.2.1
        clear hm hd
        gi_wp2_with fail
        refine ⟨trivial, (fun hd => by simp [Fence.wide] at hd), (CallsIn.inRound _ (callsIn_wide.2 (with_any _ k V3 hml (by have := HK.out; omega)))).mono ?_⟩
        rintro e V4 ⟨rfl, rfl⟩
        gi_wp2
        have q := HW3.out
        have z3 := HB3.out.size
        have z2' := HZ2.out
        refine ⟨X, fun b hb => .inl hb, ⟨(HB3.out.mono (Nat.zero_le _)).trans ((Below.refl 0 _).setCell (p := ⟨w.heap.size + 1, 0, none⟩) (Nat.zero_le _) _), fun b hb hx => (Below.heap_setCell _ _ _ b (fun e => hx ((q.own b).2 e))).trans (HB3.out.block b (by omega))⟩, ?_⟩
        show WayJ w A ca T (List.range k ++ [k]).length X _
        rw [List.length_append, List.length_range, List.length_singleton]
        exact ⟨q.low.setCell (p := ⟨w.heap.size + 1, 0, none⟩) (by simp) _, bxOtherI q.tab _ (by omega), by rw [HM.out]; exact q.set.set _, q.own⟩
    case done =>
      rintro X V hw nD hD
      have cf := hw.set.cell
      have HWW := hide hw
      clear hw
      gi_wp2
      refine ⟨by simp, .inl ⟨_, _, rfl, run_takeDeferred hD, ?_⟩⟩
      refine ⟨_, results_tmp rfl _ _ _, ?_, HWW.out.low.trans (below_putI _ (by omega))⟩
      rw [HE.out]
      unfold kinN
      rfl
    case stop =>
      rintro s X V hw
      exact hw.elim
end Go.Proofs.Ythllbekoidogpaa
