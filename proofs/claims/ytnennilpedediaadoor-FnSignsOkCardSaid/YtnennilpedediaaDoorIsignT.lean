
/- The library's strings.Trim at the three signs, and its strings.IndexRune: their contracts, laid at this program; what they answer of texts of signs. -/
import Derived.Shelf.Strings.SlTrimAscii
import Derived.Shelf.Strings.Runes
import Derived.Test.YtnennilpedediaaDoorSignQ
namespace Go.Proofs.YtnennilpedediaaDoor
open Go.RowKit Go.Shelf
set_option linter.unusedVariables false

def lays152_ren : Go.Shelf.Ren := ⟨fun | 152 => 39 | 137 => 44 | 119 => 45 | 224 => 46 | 225 => 47 | 217 => 50 | 266 => 51 | n => n, fun | 9 => 9 | 21 => 21 | 3 => 3 | 4 => 4 | 5 => 5 | 0 => 0 | 46 => 65 | n => n, fun | n => n⟩
theorem lays152 : Go.Proofs.Lays.n152 Tryd.prog lays152_ren := {
  mixed := by kernel_rfl
  f119 := Tryd.func45.trans (congrArg some (by kernel_rfl))
  f137 := Tryd.func44.trans (congrArg some (by kernel_rfl))
  f152 := Tryd.func39.trans (congrArg some (by kernel_rfl))
  f217 := Tryd.func50.trans (congrArg some (by kernel_rfl))
  f224 := Tryd.func46.trans (congrArg some (by kernel_rfl))
  f225 := Tryd.func47.trans (congrArg some (by kernel_rfl))
  f266 := Tryd.func51.trans (congrArg some (by kernel_rfl))
  t0 := Tryd.underlying0
  a0 := Tryd.isAgg0
  z0 := Tryd.sizeOf0
  v0 := Tryd.zeroValue0
  t3 := Tryd.underlying3
  a3 := Tryd.isAgg3
  z3 := Tryd.sizeOf3
  v3 := Tryd.zeroValue3
  t4 := Tryd.underlying4
  a4 := Tryd.isAgg4
  z4 := Tryd.sizeOf4
  v4 := Tryd.zeroValue4
  t5 := Tryd.underlying5
  a5 := Tryd.isAgg5
  z5 := Tryd.sizeOf5
  v5 := Tryd.zeroValue5
  t9 := Tryd.underlying9
  a9 := Tryd.isAgg9
  z9 := Tryd.sizeOf9
  v9 := Tryd.zeroValue9
  t21 := Tryd.underlying21
  a21 := Tryd.isAgg21
  z21 := Tryd.sizeOf21
  v21 := Tryd.zeroValue21
  t46 := Tryd.underlying65
  a46 := Tryd.isAgg65
  z46 := Tryd.sizeOf65
  v46 := Tryd.zeroValue65 }
def lays160_ren : Go.Shelf.Ren := ⟨fun | 160 => 21 | 232 => 32 | 231 => 31 | 227 => 33 | 234 => 35 | 233 => 34 | 236 => 37 | 235 => 36 | 228 => 40 | 271 => 43 | 151 => 42 | 197 => 41 | 120 => 49 | 152 => 39 | 260 => 48 | 137 => 44 | 119 => 45 | 224 => 46 | 225 => 47 | 217 => 50 | 266 => 51 | n => n, fun | 9 => 9 | 4 => 4 | 3 => 3 | 5 => 5 | 117 => 53 | 116 => 52 | 0 => 0 | 124 => 56 | 21 => 21 | 105 => 60 | 46 => 65 | 119 => 67 | 139 => 70 | 138 => 69 | n => n, fun | 3 => 1 | 4 => 2 | n => n⟩
theorem lays160 : Go.Proofs.Lays.n160 Tryd.prog lays160_ren := {
  mixed := by kernel_rfl
  f119 := Tryd.func45.trans (congrArg some (by kernel_rfl))
  f120 := Tryd.func49.trans (congrArg some (by kernel_rfl))
  f137 := Tryd.func44.trans (congrArg some (by kernel_rfl))
  f151 := Tryd.func42.trans (congrArg some (by kernel_rfl))
  f152 := Tryd.func39.trans (congrArg some (by kernel_rfl))
  f160 := Tryd.func21.trans (congrArg some (by kernel_rfl))
  f197 := Tryd.func41.trans (congrArg some (by kernel_rfl))
  f217 := Tryd.func50.trans (congrArg some (by kernel_rfl))
  f224 := Tryd.func46.trans (congrArg some (by kernel_rfl))
  f225 := Tryd.func47.trans (congrArg some (by kernel_rfl))
  f227 := Tryd.func33.trans (congrArg some (by kernel_rfl))
  f228 := Tryd.func40.trans (congrArg some (by kernel_rfl))
  f231 := Tryd.func31.trans (congrArg some (by kernel_rfl))
  f232 := Tryd.func32.trans (congrArg some (by kernel_rfl))
  f233 := Tryd.func34.trans (congrArg some (by kernel_rfl))
  f234 := Tryd.func35.trans (congrArg some (by kernel_rfl))
  f235 := Tryd.func36.trans (congrArg some (by kernel_rfl))
  f236 := Tryd.func37.trans (congrArg some (by kernel_rfl))
  f260 := Tryd.func48.trans (congrArg some (by kernel_rfl))
  f266 := Tryd.func51.trans (congrArg some (by kernel_rfl))
  f271 := Tryd.func43.trans (congrArg some (by kernel_rfl))
  t0 := Tryd.underlying0
  a0 := Tryd.isAgg0
  z0 := Tryd.sizeOf0
  v0 := Tryd.zeroValue0
  t3 := Tryd.underlying3
  a3 := Tryd.isAgg3
  z3 := Tryd.sizeOf3
  v3 := Tryd.zeroValue3
  t4 := Tryd.underlying4
  a4 := Tryd.isAgg4
  z4 := Tryd.sizeOf4
  v4 := Tryd.zeroValue4
  t5 := Tryd.underlying5
  a5 := Tryd.isAgg5
  z5 := Tryd.sizeOf5
  v5 := Tryd.zeroValue5
  t9 := Tryd.underlying9
  a9 := Tryd.isAgg9
  z9 := Tryd.sizeOf9
  v9 := Tryd.zeroValue9
  t21 := Tryd.underlying21
  a21 := Tryd.isAgg21
  z21 := Tryd.sizeOf21
  v21 := Tryd.zeroValue21
  t46 := Tryd.underlying65
  a46 := Tryd.isAgg65
  z46 := Tryd.sizeOf65
  v46 := Tryd.zeroValue65
  t105 := Tryd.underlying60
  a105 := Tryd.isAgg60
  z105 := Tryd.sizeOf60
  v105 := Tryd.zeroValue60
  t116 := Tryd.underlying52
  a116 := Tryd.isAgg52
  z116 := Tryd.sizeOf52
  t117 := Tryd.underlying53
  a117 := Tryd.isAgg53
  z117 := Tryd.sizeOf53
  v117 := Tryd.zeroValue53
  t119 := Tryd.underlying67
  a119 := Tryd.isAgg67
  z119 := Tryd.sizeOf67
  t124 := Tryd.underlying56
  a124 := Tryd.isAgg56
  z124 := Tryd.sizeOf56
  v124 := Tryd.zeroValue56
  t138 := Tryd.underlying69
  a138 := Tryd.isAgg69
  z138 := Tryd.sizeOf69
  v138 := Tryd.zeroValue69
  t139 := Tryd.underlying70
  a139 := Tryd.isAgg70
  z139 := Tryd.sizeOf70
  v139 := Tryd.zeroValue70
  g3 := by kernel_rfl
  g4 := by kernel_rfl }

theorem mem_drop {p : UInt8 → Bool} {c : UInt8} (hp : p c = false) : ∀ {l : List UInt8}, c ∈ l → c ∈ l.dropWhile p
  | [], h => by cases h
  | x :: t, h => by
    rw [List.dropWhile_cons]
    cases hx : p x
    · simpa using h
    · rcases List.mem_cons.1 h with rfl | h
      · rw [hp] at hx; cases hx
      · simpa using mem_drop hp h
theorem drop_all {p : UInt8 → Bool} : ∀ {l : List UInt8}, (∀ c, c ∈ l → p c = true) → l.dropWhile p = []
  | [], _ => rfl
  | x :: t, h => by
    rw [List.dropWhile_cons, if_pos (h x (by simp))]
    exact drop_all fun c hc => h c (by simp [hc])
theorem sgn_has (c : UInt8) : [48, 43, 45].contains c = okS c := by
  unfold okS
  simp only [List.contains, List.elem]
  cases h1 : c == 48 <;> cases h2 : c == 43 <;> cases h3 : c == 45 <;> simp_all
theorem trim_signs (u : List UInt8) (h : u.all okS = true) : Lib.trimS u [48, 43, 45] = [] := by
  have hp : ∀ c, c ∈ u → [48, 43, 45].contains c = true := fun c hc => by rw [sgn_has]; exact List.all_eq_true.1 h c hc
  unfold Lib.trimS Lib.trimLeftS Lib.trimRightS
  rw [drop_all (l := u.reverse) fun c hc => hp c (by simpa using hc)]
  rfl
theorem trim_other (u : List UInt8) (h : u.all okS = false) : Lib.trimS u [48, 43, 45] ≠ [] := by
  obtain ⟨c, hc, ho⟩ : ∃ c, c ∈ u ∧ okS c = false := by
    have := List.all_eq_false.1 h
    obtain ⟨c, hc, ho⟩ := this
    exact ⟨c, hc, by simpa using ho⟩
  have hp : [48, 43, 45].contains c = false := by rw [sgn_has]; exact ho
  have : c ∈ Lib.trimS u [48, 43, 45] := by
    unfold Lib.trimS Lib.trimLeftS Lib.trimRightS
    refine mem_drop hp ?_
    rw [List.mem_reverse]
    exact mem_drop hp (by simpa using hc)
  exact List.ne_nil_of_mem this
/-- strings.Trim of a text at the three signs. -/
theorem iTrim_any (u : List UInt8) (w : World) (hn : u.length ≤ 1048576) :
    Calls Tryd.prog 21 #[.string (bs u), .string ⟨#[48, 43, 45]⟩] w fun e w' => e = .returned (.string (bs (Lib.trimS u [48, 43, 45]))) ∧ Below w.heap.size w w' := by
  have h := Any.strings_Trim_laid lays160 (by kernel_rfl) (bs u) ⟨#[48, 43, 45]⟩ w (by rw [size_bs]; omega) (by decide) (ascii_of_all (by decide))
  exact h
/-- The number of a sign. -/
def dg (c : UInt8) : Nat := if c = 48 then 0 else if c = 43 then 1 else 2
theorem dg_lt (c : UInt8) : dg c < 3 := by
  unfold dg
  split
  · omega
  · split <;> omega
/-- strings.IndexRune of a sign among the three. -/
theorem iIndex_any (c : UInt8) (w : World) (h : okS c = true) :
    Calls Tryd.prog 39 #[.string ⟨#[48, 43, 45]⟩, .int .i32 ((c.toNat : Nat) : Int)] w fun e w' => e = .returned (.int .i64 ((dg c : Nat) : Int)) ∧ w = w' := by
  rcases okS_iff.1 h with rfl | rfl | rfl
  all_goals
    refine (Any.strings_IndexRune_ascii lays152 ⟨#[48, 43, 45]⟩ _ w (by decide) (by decide)).mono ?_
    rintro e w' ⟨rfl, rfl⟩
    exact ⟨by first | rfl | kernel_rfl, rfl⟩
end Go.Proofs.YtnennilpedediaaDoor
