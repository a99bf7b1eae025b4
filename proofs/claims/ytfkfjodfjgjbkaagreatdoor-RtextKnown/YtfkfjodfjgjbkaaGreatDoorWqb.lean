/- Texts laid together: Xe Shelf Lz Byt Bld Bld2 Txt Fld Ord. -/
import Derived.Test.YtfkfjodfjgjbkaaGreatDoorWqa
import Derived.Shelf.Strings.OnBuilder
import Derived.Shelf.Strconv.Itoa1
import Derived.Shelf.LaysM
import Derived.Shelf.Strconv.Itoa2
import Derived.Shelf.Strconv.Itoa3
import Derived.Shelf.LaysC
import Derived.Shelf.Strconv.ToError
import Derived.Shelf.Strconv.Lower
import Derived.Shelf.Strconv.ToErrorRange
import Derived.Shelf.Pu.ParseUintPublic10
import Derived.Shelf.Pu.ErrVarParseUint
import Derived.Shelf.Strings.Search3
import Derived.Shelf.Strings.Cut
import Derived.Shelf.Strings.Split
import Derived.Test.YtfkfjodfjgjbkaaGreatDoorProg
import Derived.Lib.SmallJoins
import Derived.Lib.AppendIntMem
import Derived.Lib.AtoiAllMem
import Derived.BigCall
import Derived.BigGuard
import Derived.Deep.QuietTactic
import Derived.BigQuiet
import Derived.Deep.RegionHeld3
import Derived.Lib.Builder
import Derived.Lib.UnsafeStr
import Derived.Laws.AppendOwn
import Derived.Lib.Bytealg
/- The longest run of noughts by two marks; numbers of at most four digits by the library's ParseUint: without any program. -/
namespace Go.Proofs.YtfkfjodfjgjbkaaGreatDoor
open Go Go.Lib
set_option linter.unusedVariables false
set_option linter.unusedSimpArgs false


/-- One step of the mark that runs: where the longest run so far begins and ends, and where the run begins that the mark is in. -/
def lstep (l : List Nat) (s : Nat × Nat × Nat) (r : Nat) : Nat × Nat × Nat :=
  if max 1 (s.2.1 - s.1) < r + 1 - (if l.getD r 0 ≠ 0 then r + 1 else s.2.2) then ((if l.getD r 0 ≠ 0 then r + 1 else s.2.2), r + 1, (if l.getD r 0 ≠ 0 then r + 1 else s.2.2)) else (s.1, s.2.1, (if l.getD r 0 ≠ 0 then r + 1 else s.2.2))
def lrunK (l : List Nat) (k : Nat) : Nat × Nat × Nat := (List.range k).foldl (lstep l) (0, 0, 0)
theorem lrunK_succ (l : List Nat) (k : Nat) : lrunK l (k + 1) = lstep l (lrunK l k) k := by
  unfold lrunK; rw [List.range_succ, List.foldl_append]; rfl
theorem lrunK_ok (l : List Nat) : ∀ k, (lrunK l k).1 ≤ (lrunK l k).2.1 ∧ (lrunK l k).2.1 ≤ k ∧ (lrunK l k).2.2 ≤ k := by
  intro k
  induction k with
  | zero => exact ⟨Nat.le_refl _, Nat.le_refl _, Nat.le_refl _⟩
  | succ k ih =>
    rw [lrunK_succ]
    unfold lstep
    generalize lrunK l k = s at *
    have hm : (if l.getD k 0 ≠ 0 then k + 1 else s.2.2) ≤ k + 1 := by split <;> omega
    generalize (if l.getD k 0 ≠ 0 then k + 1 else s.2.2) = m at *
    split
    · exact ⟨hm, Nat.le_refl _, hm⟩
    · exact ⟨ih.1, Nat.le_succ_of_le ih.2.1, hm⟩
def nz (n : Nat) : Nat := if n = 0 then 0 else 1
theorem nz_zero (n : Nat) : nz n = 0 ↔ n = 0 := by unfold nz; split <;> simp [*]
theorem xzr_nz (l : List Nat) : xzr (l.map nz) = xzr l := by
  induction l with
  | nil => rfl
  | cons n l ih => simp only [List.map_cons, xzr, ih, nz_zero]
theorem xstep_nz (l : List Nat) : xstep (l.map nz) = xstep l := by
  funext p i
  unfold xstep
  rw [← List.map_drop, xzr_nz]
theorem xlong_nz (l : List Nat) : xlong (l.map nz) = xlong l := by unfold xlong; rw [xstep_nz, List.length_map]
theorem lstep_nz (l : List Nat) : lstep (l.map nz) = lstep l := by
  funext s r
  have e : ((l.map nz).getD r 0 ≠ 0) = (l.getD r 0 ≠ 0) := by
    rw [List.getD_eq_getElem?_getD, List.getD_eq_getElem?_getD, List.getElem?_map]
    cases h : l[r]? with
    | none => rfl
    | some n => simp only [Option.map_some, Option.getD_some, ne_eq, nz_zero]
  unfold lstep
  simp only [e]
theorem lrunK_nz (l : List Nat) (k : Nat) : lrunK (l.map nz) k = lrunK l k := by unfold lrunK; rw [lstep_nz]
def okRun (l : List Nat) : Bool := if (xlong l).2 = 0 then decide ((lrunK l 8).1 = (lrunK l 8).2.1) else decide ((lrunK l 8).1 = (xlong l).1 ∧ (lrunK l 8).2.1 = (xlong l).1 + (xlong l).2 ∧ (lrunK l 8).1 ≠ (lrunK l 8).2.1)
def b2 (b : Bool) : Nat := if b then 1 else 0
theorem okRun_all : ∀ a b c d e f g h : Bool, okRun [b2 a, b2 b, b2 c, b2 d, b2 e, b2 f, b2 g, b2 h] = true := by decide +kernel
theorem okRun_any (l : List Nat) (h8 : l.length = 8) : okRun l = true := by
  have e : okRun l = okRun (l.map nz) := by unfold okRun; rw [xlong_nz, lrunK_nz]
  rw [e]
  match l, h8 with
  | [a, b, c, d, e, f, g, h], _ =>
    have hb : ∀ n, nz n = b2 (decide (n ≠ 0)) := by intro n; unfold nz b2; by_cases h : n = 0 <;> simp [h]
    simp only [List.map_cons, List.map_nil, hb]
    exact okRun_all _ _ _ _ _ _ _ _
/-- The text of eight numbers, by the marks. -/
theorem xa6_run (l : List Nat) (h8 : l.length = 8) : ((lrunK l 8).1 = (lrunK l 8).2.1 → xa6 l = xcol l) ∧ ((lrunK l 8).1 ≠ (lrunK l 8).2.1 → xa6 l = xcol (l.take (lrunK l 8).1) ++ 58 :: 58 :: xcol (l.drop (lrunK l 8).2.1)) := by
  have h := okRun_any l h8
  unfold okRun at h
  unfold xa6
  by_cases h0 : (xlong l).2 = 0
  · rw [if_pos h0] at h ⊢
    rw [decide_eq_true_eq] at h
    exact ⟨fun _ => rfl, fun hn => absurd h hn⟩
  · rw [if_neg h0] at h ⊢
    rw [decide_eq_true_eq] at h
    obtain ⟨h1, h2, h3⟩ := h
    exact ⟨fun e => absurd e h3, fun _ => by rw [h2, h1]⟩
/-- ParseUint(s, 16, 16), behind its test for the empty text. -/
def puX (acc : Nat) : List UInt8 → NumEnd Nat
  | [] => .ok acc
  | c :: r => match xhv c.toNat with
    | none => .syntax
    | some d => if 65535 < acc * 16 + d then .range else puX (acc * 16 + d) r
def puH (l : List UInt8) : NumEnd Nat := if l = [] then .syntax else puX 0 l
theorem xhv_lt {c : Int} {d : Nat} (h : xhv c = some d) : d < 16 := by
  unfold xhv at h
  split at h
  · injection h; omega
  · split at h
    · injection h; omega
    · split at h
      · injection h; omega
      · cases h
theorem xfold_none (l : List Int) : l.foldl (fun a c => a.bind fun n => (xhv c).map fun v => 16 * n + v) (none : Option Nat) = none := by
  induction l with
  | nil => rfl
  | cons c l ih => rw [List.foldl_cons]; exact ih
theorem puX_ok : ∀ (l : List UInt8) (acc u : Nat), puX acc l = .ok u → (bi l).foldl (fun a c => a.bind fun n => (xhv c).map fun v => 16 * n + v) (some acc) = some u := by
  intro l
  induction l with
  | nil => intro acc u h; simp only [puX] at h; injection h with h; subst h; rfl
  | cons c r ih =>
    intro acc u h
    simp only [puX] at h
    rw [bi_cons, List.foldl_cons]
    cases hc : xhv c.toNat with
    | none => rw [hc] at h; cases h
    | some d =>
      rw [hc] at h
      simp only at h
      split at h
      · cases h
      · have e : ((some acc).bind fun n => (some d).map fun v => 16 * n + v) = some (acc * 16 + d) := by
          show some (16 * acc + d) = _
          rw [Nat.mul_comm]
        rw [e]
        exact ih _ _ h
theorem puX_some : ∀ (l : List UInt8) (acc u k : Nat), l.length ≤ k → acc < 16 ^ (4 - k) → k ≤ 4 → (bi l).foldl (fun a c => a.bind fun n => (xhv c).map fun v => 16 * n + v) (some acc) = some u → puX acc l = .ok u := by
  intro l
  induction l with
  | nil => intro acc u k _ _ _ h; simp only [bi, List.map_nil, List.foldl_nil] at h; injection h with h; subst h; rfl
  | cons c r ih =>
    intro acc u k hk ha h4 h
    rw [bi_cons, List.foldl_cons] at h
    cases hc : xhv c.toNat with
    | none =>
      rw [hc] at h
      have : ((some acc).bind fun n => (none : Option Nat).map fun v => 16 * n + v) = none := rfl
      rw [this, xfold_none] at h
      cases h
    | some d =>
      rw [hc] at h
      have hd := xhv_lt hc
      have e : ((some acc).bind fun n => (some d).map fun v => 16 * n + v) = some (acc * 16 + d) := by
        show some (16 * acc + d) = _
        rw [Nat.mul_comm]
      rw [e] at h
      simp only [List.length_cons] at hk
      have h16 : acc * 16 + d < 16 ^ (4 - (k - 1)) := by
        rw [show 4 - (k - 1) = (4 - k) + 1 by omega, Nat.pow_succ]
        omega
      have hle : (16 : Nat) ^ (4 - (k - 1)) ≤ 16 ^ 4 := Nat.pow_le_pow_right (by omega) (by omega)
      simp only [puX, hc]
      rw [if_neg (by omega)]
      exact ih _ u (k - 1) (by omega) h16 (by omega) h
/-- What the program takes for a number of two bytes. -/
theorem puH_grp (l : List UInt8) (u : Nat) : (puH l = .ok u ∧ l.length ≤ 4) ↔ xgrp (bi l) = some u := by
  unfold puH xgrp
  rw [bi_len]
  by_cases h0 : l = []
  · subst h0
    rw [if_pos rfl, if_neg (by simp)]
    constructor
    · rintro ⟨h, _⟩; cases h
    · intro h; cases h
  · have hp : 1 ≤ l.length := List.length_pos_iff.2 h0
    rw [if_neg h0]
    by_cases h4 : l.length ≤ 4
    · rw [if_pos ⟨hp, h4⟩]
      constructor
      · rintro ⟨h, _⟩; exact puX_ok l 0 u h
      · intro h; exact ⟨puX_some l 0 u l.length (Nat.le_refl _) (Nat.pow_pos (by omega)) h4 h, h4⟩
    · rw [if_neg (by omega)]
      constructor
      · rintro ⟨_, h⟩; exact absurd h h4
      · intro h; cases h
theorem puX_lt : ∀ (l : List UInt8) (acc u : Nat), acc ≤ 65535 → puX acc l = .ok u → u ≤ 65535 := by
  intro l
  induction l with
  | nil => intro acc u ha h; simp only [puX] at h; injection h with h; omega
  | cons c r ih =>
    intro acc u ha h
    simp only [puX] at h
    cases hc : xhv c.toNat with
    | none => rw [hc] at h; cases h
    | some d =>
      rw [hc] at h
      simp only at h
      split at h
      · cases h
      · exact ih _ _ (by omega) h
end Go.Proofs.YtfkfjodfjgjbkaaGreatDoor
/- Contracts of library functions at this program: written by the kit's command lay-plain.mjs (its plain mode), without remarks. -/
namespace Go.Proofs
open Go.Shelf
def Tryz.lays156_ren : Go.Shelf.Ren := ⟨fun | 156 => 43 | 165 => 79 | 166 => 80 | 169 => 49 | 240 => 84 | 241 => 109 | 276 => 112 | 277 => 131 | n => n, fun | 31 => 26 | 9 => 9 | 3 => 3 | 4 => 4 | 0 => 0 | 20 => 20 | 72 => 81 | 76 => 118 | 70 => 79 | 37 => 27 | 75 => 83 | 127 => 120 | 164 => 146 | 5 => 5 | 80 => 85 | n => n, fun | n => n⟩
theorem Tryz.lays156 : Go.Proofs.Lays.n156 Tryz.prog Tryz.lays156_ren := {
  mixed := by kernel_rfl
  f156 := Tryz.func43.trans (congrArg some (by kernel_rfl))
  f165 := Tryz.func79.trans (congrArg some (by kernel_rfl))
  f166 := Tryz.func80.trans (congrArg some (by kernel_rfl))
  f169 := Tryz.func49.trans (congrArg some (by kernel_rfl))
  f240 := Tryz.func84.trans (congrArg some (by kernel_rfl))
  f241 := Tryz.func109.trans (congrArg some (by kernel_rfl))
  f276 := Tryz.func112.trans (congrArg some (by kernel_rfl))
  f277 := Tryz.func131.trans (congrArg some (by kernel_rfl))
  t0 := Tryz.underlying0
  a0 := Tryz.isAgg0
  z0 := Tryz.sizeOf0
  v0 := Tryz.zeroValue0
  t3 := Tryz.underlying3
  a3 := Tryz.isAgg3
  z3 := Tryz.sizeOf3
  v3 := Tryz.zeroValue3
  t4 := Tryz.underlying4
  a4 := Tryz.isAgg4
  z4 := Tryz.sizeOf4
  v4 := Tryz.zeroValue4
  t9 := Tryz.underlying9
  a9 := Tryz.isAgg9
  z9 := Tryz.sizeOf9
  v9 := Tryz.zeroValue9
  t20 := Tryz.underlying20
  a20 := Tryz.isAgg20
  z20 := Tryz.sizeOf20
  v20 := Tryz.zeroValue20
  t31 := Tryz.underlying26
  a31 := Tryz.isAgg26
  z31 := Tryz.sizeOf26
  v31 := Tryz.zeroValue26
  t37 := Tryz.underlying27
  a37 := Tryz.isAgg27
  z37 := Tryz.sizeOf27
  v37 := Tryz.zeroValue27
  t70 := Tryz.underlying79
  a70 := Tryz.isAgg79
  z70 := Tryz.sizeOf79
  v70 := Tryz.zeroValue79
  t72 := Tryz.underlying81
  a72 := Tryz.isAgg81
  z72 := Tryz.sizeOf81
  v72 := Tryz.zeroValue81
  t75 := Tryz.underlying83
  a75 := Tryz.isAgg83
  z75 := Tryz.sizeOf83
  v75 := Tryz.zeroValue83
  t76 := Tryz.underlying118
  a76 := Tryz.isAgg118
  z76 := Tryz.sizeOf118
  v76 := Tryz.zeroValue118
  t127 := Tryz.underlying120
  a127 := Tryz.isAgg120
  z127 := Tryz.sizeOf120
  v127 := Tryz.zeroValue120
  t164 := Tryz.underlying146
  a164 := Tryz.isAgg146
  z164 := Tryz.sizeOf146
  v164 := Tryz.zeroValue146 }
theorem Tryz.Builder_Extra_156 : Builder.Extra Tryz.prog Tryz.lays156_ren := {
  sizeBuilder := by kernel_rfl
  liesBuilder := by kernel_rfl
  t5 := Tryz.underlying5
  a5 := Tryz.isAgg5
  z5 := Tryz.sizeOf5
  v5 := Tryz.zeroValue5
  infoByte := by kernel_rfl
  cellsByte := by kernel_rfl
  sizeByte := by kernel_rfl
  neB5 := by decide }
open Go.RowKit in
theorem Tryz.strings_Join_none (a : Option Addr) (c : Nat) (sep : ByteArray) (w : World) :
    Calls Tryz.prog 43 #[.slice a 0 c, .string sep] w fun e w' => e = .returned (.string ⟨#[]⟩) ∧ w' = w := Any.strings_Join_none Tryz.lays156 Tryz.Builder_Extra_156 a c sep w
open Go.RowKit in
theorem Tryz.strings_Join (bk o c : Nat) (xs : List ByteArray) (sep : ByteArray) (w : World) (hcells : ∀ (j : Nat) x, xs[j]? = some x → w.cell? ⟨bk, o + j, none⟩ = some (.string x)) (hbk : bk < w.heap.size) (hN : xs.length ≤ 140737488355328) (hcap : xs.length ≤ c) (hlen : (Lib.join (xs.map (·.data.toList)) sep.data.toList).length ≤ 140737488355328) :
    Calls Tryz.prog 43 #[.slice (some ⟨bk, o, none⟩) xs.length c, .string sep] w fun e w' => e = .returned (.string ⟨(Lib.join (xs.map (·.data.toList)) sep.data.toList).toArray⟩) ∧ Below w.heap.size w w' := Any.strings_Join Tryz.lays156 Tryz.Builder_Extra_156 bk o c xs sep w hcells hbk hN hcap hlen
def Tryz.lays283_ren : Go.Shelf.Ren := ⟨fun | 283 => 146 | n => n, fun | 3 => 3 | 9 => 9 | 4 => 4 | n => n, fun | n => n⟩
theorem Tryz.lays283 : Go.Proofs.Lays.n283 Tryz.prog Tryz.lays283_ren := {
  mixed := by kernel_rfl
  f283 := Tryz.func146.trans (congrArg some (by kernel_rfl))
  t3 := Tryz.underlying3
  a3 := Tryz.isAgg3
  z3 := Tryz.sizeOf3
  v3 := Tryz.zeroValue3
  t4 := Tryz.underlying4
  a4 := Tryz.isAgg4
  z4 := Tryz.sizeOf4
  v4 := Tryz.zeroValue4
  t9 := Tryz.underlying9
  a9 := Tryz.isAgg9
  z9 := Tryz.sizeOf9
  v9 := Tryz.zeroValue9 }
open Go.Lib in
theorem Tryz.internal_strconv_small (i : Nat) (h : i < 100) (w : World) :
    Calls Tryz.prog 146 #[.int .i64 i] w fun e w' => e = .returned (.string ⟨(Lib.decDigits i).toArray⟩) ∧ w' = w := Any.internal_strconv_small Tryz.lays283 i h w
def Tryz.laysM284_ren : Go.Shelf.Ren := ⟨fun | 284 => 147 | 129 => 174 | 317 => 173 | 318 => 175 | n => n, fun | 53 => 139 | 3 => 3 | 212 => 192 | 0 => 0 | 4 => 4 | 46 => 56 | 5 => 5 | 9 => 9 | n => n, fun | 17 => 1 | n => n⟩
theorem Tryz.laysM284 : Go.Proofs.LaysM.n284 Tryz.prog Tryz.laysM284_ren := {
  mixed := by kernel_rfl
  f129 := Tryz.func174.trans (congrArg some (by kernel_rfl))
  f284 := Tryz.func147.trans (congrArg some (by kernel_rfl))
  f317 := Tryz.func173.trans (congrArg some (by kernel_rfl))
  f318 := Tryz.func175.trans (congrArg some (by kernel_rfl))
  t0 := Tryz.underlying0
  a0 := Tryz.isAgg0
  z0 := Tryz.sizeOf0
  v0 := Tryz.zeroValue0
  t3 := Tryz.underlying3
  a3 := Tryz.isAgg3
  z3 := Tryz.sizeOf3
  v3 := Tryz.zeroValue3
  t4 := Tryz.underlying4
  a4 := Tryz.isAgg4
  z4 := Tryz.sizeOf4
  v4 := Tryz.zeroValue4
  t5 := Tryz.underlying5
  a5 := Tryz.isAgg5
  z5 := Tryz.sizeOf5
  v5 := Tryz.zeroValue5
  t9 := Tryz.underlying9
  a9 := Tryz.isAgg9
  z9 := Tryz.sizeOf9
  v9 := Tryz.zeroValue9
  t46 := Tryz.underlying56
  a46 := Tryz.isAgg56
  z46 := Tryz.sizeOf56
  v46 := Tryz.zeroValue56
  t53 := Tryz.underlying139
  a53 := Tryz.isAgg139
  z53 := Tryz.sizeOf139
  v53 := Tryz.zeroValue139
  t212 := Tryz.underlying192
  a212 := Tryz.isAgg192
  z212 := Tryz.sizeOf192
  v212 := Tryz.zeroValue192
  g17 := by kernel_rfl
  i0 := by kernel_rfl
  i3 := by kernel_rfl
  i4 := by kernel_rfl
  i5 := by kernel_rfl
  i9 := by kernel_rfl
  i46 := by kernel_rfl
  i53 := by kernel_rfl
  i212 := by kernel_rfl
  m17 := by kernel_rfl }
open Go.Lib in
theorem Tryz.internal_strconv_numDigits (u : Nat) (h1 : 1 ≤ u) (h2 : u < 18446744073709551616) (w : World) (htab : Lib.TabIs Tryz.prog w "internal/strconv.uint64pow10" .u64 Lib.pow10Tab) :
    Calls Tryz.prog 147 #[.int .u64 u] w fun e w' => e = .returned (.int .i64 (Lib.nDigits u)) ∧ w' = w := Any.internal_strconv_numDigits Tryz.laysM284 u h1 h2 w htab
def Tryz.lays285_ren : Go.Shelf.Ren := ⟨fun | 285 => 148 | n => n, fun | 37 => 27 | 53 => 139 | 3 => 3 | 4 => 4 | 51 => 70 | 9 => 9 | 5 => 5 | 0 => 0 | n => n, fun | n => n⟩
theorem Tryz.lays285 : Go.Proofs.Lays.n285 Tryz.prog Tryz.lays285_ren := {
  mixed := by kernel_rfl
  f285 := Tryz.func148.trans (congrArg some (by kernel_rfl))
  t0 := Tryz.underlying0
  a0 := Tryz.isAgg0
  z0 := Tryz.sizeOf0
  v0 := Tryz.zeroValue0
  t3 := Tryz.underlying3
  a3 := Tryz.isAgg3
  z3 := Tryz.sizeOf3
  v3 := Tryz.zeroValue3
  t4 := Tryz.underlying4
  a4 := Tryz.isAgg4
  z4 := Tryz.sizeOf4
  v4 := Tryz.zeroValue4
  t5 := Tryz.underlying5
  a5 := Tryz.isAgg5
  z5 := Tryz.sizeOf5
  v5 := Tryz.zeroValue5
  t9 := Tryz.underlying9
  a9 := Tryz.isAgg9
  z9 := Tryz.sizeOf9
  v9 := Tryz.zeroValue9
  t37 := Tryz.underlying27
  a37 := Tryz.isAgg27
  z37 := Tryz.sizeOf27
  v37 := Tryz.zeroValue27
  t51 := Tryz.underlying70
  a51 := Tryz.isAgg70
  z51 := Tryz.sizeOf70
  v51 := Tryz.zeroValue70
  t53 := Tryz.underlying139
  a53 := Tryz.isAgg139
  z53 := Tryz.sizeOf139
  v53 := Tryz.zeroValue139 }
open Go.RowKit Go.Sort Go.Lib in
theorem Tryz.internal_strconv_formatBase10 (blk off cap : Nat) (u : Nat) (d : Array UInt8) (w : World) (hH : Holds (fun (b : UInt8) => Value.int .u8 (b.toNat : Int)) w blk off d) (hu : u < 10 ^ d.size) (hu64 : u < 18446744073709551616) (hsz : d.size < 4611686018427387904) :
    Calls Tryz.prog 148 #[.slice (some ⟨blk, off, none⟩) d.size cap, .int .u64 u] w fun e w' =>
      e = .returned (.tuple #[]) ∧ ∃ (n v' : Nat) (dk : Array UInt8), w' = (putRow (fun (b : UInt8) => Value.int .u8 (b.toNat : Int)) w blk off dk).drewN n ∧ FmtInv d.size u 0 v' dk := Any.internal_strconv_formatBase10 Tryz.lays285 blk off cap u d w hH hu hu64 hsz
def Tryz.laysM171_ren : Go.Shelf.Ren := ⟨fun | 171 => 102 | 243 => 130 | 246 => 150 | 283 => 146 | 284 => 147 | 285 => 148 | 286 => 149 | 129 => 174 | 317 => 173 | 318 => 175 | 319 => 176 | 320 => 177 | 337 => 191 | 338 => 192 | n => n, fun | 3 => 3 | 9 => 9 | 2 => 2 | 4 => 4 | 171 => 166 | 0 => 0 | 53 => 139 | 37 => 27 | 5 => 5 | 173 => 169 | 212 => 192 | 51 => 70 | 20 => 20 | 213 => 193 | 46 => 56 | 232 => 225 | 233 => 226 | n => n, fun | 17 => 1 | 18 => 6 | 19 => 7 | n => n⟩
theorem Tryz.laysM171 : Go.Proofs.LaysM.n171 Tryz.prog Tryz.laysM171_ren := {
  mixed := by kernel_rfl
  f129 := Tryz.func174.trans (congrArg some (by kernel_rfl))
  f171 := Tryz.func102.trans (congrArg some (by kernel_rfl))
  f243 := Tryz.func130.trans (congrArg some (by kernel_rfl))
  f246 := Tryz.func150.trans (congrArg some (by kernel_rfl))
  f283 := Tryz.func146.trans (congrArg some (by kernel_rfl))
  f284 := Tryz.func147.trans (congrArg some (by kernel_rfl))
  f285 := Tryz.func148.trans (congrArg some (by kernel_rfl))
  f286 := Tryz.func149.trans (congrArg some (by kernel_rfl))
  f317 := Tryz.func173.trans (congrArg some (by kernel_rfl))
  f318 := Tryz.func175.trans (congrArg some (by kernel_rfl))
  f319 := Tryz.func176.trans (congrArg some (by kernel_rfl))
  f320 := Tryz.func177.trans (congrArg some (by kernel_rfl))
  f337 := Tryz.func191.trans (congrArg some (by kernel_rfl))
  f338 := Tryz.func192.trans (congrArg some (by kernel_rfl))
  t0 := Tryz.underlying0
  a0 := Tryz.isAgg0
  z0 := Tryz.sizeOf0
  v0 := Tryz.zeroValue0
  t2 := Tryz.underlying2
  a2 := Tryz.isAgg2
  z2 := Tryz.sizeOf2
  v2 := Tryz.zeroValue2
  t3 := Tryz.underlying3
  a3 := Tryz.isAgg3
  z3 := Tryz.sizeOf3
  v3 := Tryz.zeroValue3
  t4 := Tryz.underlying4
  a4 := Tryz.isAgg4
  z4 := Tryz.sizeOf4
  v4 := Tryz.zeroValue4
  t5 := Tryz.underlying5
  a5 := Tryz.isAgg5
  z5 := Tryz.sizeOf5
  v5 := Tryz.zeroValue5
  t9 := Tryz.underlying9
  a9 := Tryz.isAgg9
  z9 := Tryz.sizeOf9
  v9 := Tryz.zeroValue9
  t20 := Tryz.underlying20
  a20 := Tryz.isAgg20
  z20 := Tryz.sizeOf20
  v20 := Tryz.zeroValue20
  t37 := Tryz.underlying27
  a37 := Tryz.isAgg27
  z37 := Tryz.sizeOf27
  v37 := Tryz.zeroValue27
  t46 := Tryz.underlying56
  a46 := Tryz.isAgg56
  z46 := Tryz.sizeOf56
  v46 := Tryz.zeroValue56
  t51 := Tryz.underlying70
  a51 := Tryz.isAgg70
  z51 := Tryz.sizeOf70
  v51 := Tryz.zeroValue70
  t53 := Tryz.underlying139
  a53 := Tryz.isAgg139
  z53 := Tryz.sizeOf139
  v53 := Tryz.zeroValue139
  t171 := Tryz.underlying166
  a171 := Tryz.isAgg166
  z171 := Tryz.sizeOf166
  v171 := Tryz.zeroValue166
  t173 := Tryz.underlying169
  a173 := Tryz.isAgg169
  z173 := Tryz.sizeOf169
  v173 := Tryz.zeroValue169
  t212 := Tryz.underlying192
  a212 := Tryz.isAgg192
  z212 := Tryz.sizeOf192
  v212 := Tryz.zeroValue192
  t213 := Tryz.underlying193
  a213 := Tryz.isAgg193
  z213 := Tryz.sizeOf193
  t232 := Tryz.underlying225
  a232 := Tryz.isAgg225
  z232 := Tryz.sizeOf225
  v232 := Tryz.zeroValue225
  t233 := Tryz.underlying226
  a233 := Tryz.isAgg226
  z233 := Tryz.sizeOf226
  v233 := Tryz.zeroValue226
  g17 := by kernel_rfl
  g18 := by kernel_rfl
  g19 := by kernel_rfl
  i0 := by kernel_rfl
  i2 := by kernel_rfl
  i3 := by kernel_rfl
  i4 := by kernel_rfl
  i5 := by kernel_rfl
  i9 := by kernel_rfl
  i20 := by kernel_rfl
  i37 := by kernel_rfl
  i46 := by kernel_rfl
  i51 := by kernel_rfl
  i53 := by kernel_rfl
  i171 := by kernel_rfl
  i173 := by kernel_rfl
  i212 := by kernel_rfl
  i232 := by kernel_rfl
  i233 := by kernel_rfl
  m17 := by kernel_rfl
  m18 := by kernel_rfl
  m19 := by kernel_rfl }
open Go.RowKit Go.Sort Go.Lib in
theorem Tryz.strconv_Itoa (n : Int) (h0 : -9223372036854775808 ≤ n) (h1 : n ≤ 9223372036854775807) (w : World) (htab : Lib.TabIs Tryz.prog w "internal/strconv.uint64pow10" .u64 Lib.pow10Tab) :
    Calls Tryz.prog 102 #[.int .i64 n] w fun e w' => e = .returned (.string ⟨(Lib.itoa n).toArray⟩) ∧ ∃ k os, w' = grow (w.drewN k) os := Any.strconv_Itoa Tryz.laysM171 n h0 h1 w htab
def Tryz.laysC245_ren : Go.Shelf.Ren := ⟨fun | 245 => 139 | 279 => 165 | 280 => 166 | 281 => 167 | 282 => 168 | 316 => 188 | 171 => 102 | 205 => 189 | 243 => 130 | 246 => 150 | 283 => 146 | 284 => 147 | 285 => 148 | 286 => 149 | 129 => 174 | 317 => 173 | 318 => 175 | 319 => 176 | 320 => 177 | 337 => 191 | 338 => 192 | n => n, fun | 9 => 9 | 3 => 3 | 75 => 83 | 167 => 182 | 4 => 4 | 168 => 184 | 210 => 211 | 37 => 27 | 0 => 0 | 127 => 120 | 145 => 220 | 143 => 218 | 2 => 2 | 171 => 166 | 53 => 139 | 5 => 5 | 173 => 169 | 212 => 192 | 51 => 70 | 20 => 20 | 213 => 193 | 46 => 56 | 232 => 225 | 233 => 226 | 80 => 85 | n => n, fun | 15 => 2 | 16 => 3 | 17 => 1 | 18 => 6 | 19 => 7 | n => n⟩
theorem Tryz.laysC245 : Go.Proofs.LaysC.n245 Tryz.prog Tryz.laysC245_ren := {
  mixed := by kernel_rfl
  f129 := Tryz.func174.trans (congrArg some (by kernel_rfl))
  f171 := Tryz.func102.trans (congrArg some (by kernel_rfl))
  f205 := Tryz.func189.trans (congrArg some (by kernel_rfl))
  f243 := Tryz.func130.trans (congrArg some (by kernel_rfl))
  f245 := Tryz.func139.trans (congrArg some (by kernel_rfl))
  f246 := Tryz.func150.trans (congrArg some (by kernel_rfl))
  f279 := Tryz.func165.trans (congrArg some (by kernel_rfl))
  f280 := Tryz.func166.trans (congrArg some (by kernel_rfl))
  f281 := Tryz.func167.trans (congrArg some (by kernel_rfl))
  f282 := Tryz.func168.trans (congrArg some (by kernel_rfl))
  f283 := Tryz.func146.trans (congrArg some (by kernel_rfl))
  f284 := Tryz.func147.trans (congrArg some (by kernel_rfl))
  f285 := Tryz.func148.trans (congrArg some (by kernel_rfl))
  f286 := Tryz.func149.trans (congrArg some (by kernel_rfl))
  f316 := Tryz.func188.trans (congrArg some (by kernel_rfl))
  f317 := Tryz.func173.trans (congrArg some (by kernel_rfl))
  f318 := Tryz.func175.trans (congrArg some (by kernel_rfl))
  f319 := Tryz.func176.trans (congrArg some (by kernel_rfl))
  f320 := Tryz.func177.trans (congrArg some (by kernel_rfl))
  f337 := Tryz.func191.trans (congrArg some (by kernel_rfl))
  f338 := Tryz.func192.trans (congrArg some (by kernel_rfl))
  t0 := Tryz.underlying0
  a0 := Tryz.isAgg0
  z0 := Tryz.sizeOf0
  v0 := Tryz.zeroValue0
  t2 := Tryz.underlying2
  a2 := Tryz.isAgg2
  z2 := Tryz.sizeOf2
  v2 := Tryz.zeroValue2
  t3 := Tryz.underlying3
  a3 := Tryz.isAgg3
  z3 := Tryz.sizeOf3
  v3 := Tryz.zeroValue3
  t4 := Tryz.underlying4
  a4 := Tryz.isAgg4
  z4 := Tryz.sizeOf4
  v4 := Tryz.zeroValue4
  t5 := Tryz.underlying5
  a5 := Tryz.isAgg5
  z5 := Tryz.sizeOf5
  v5 := Tryz.zeroValue5
  t9 := Tryz.underlying9
  a9 := Tryz.isAgg9
  z9 := Tryz.sizeOf9
  v9 := Tryz.zeroValue9
  t20 := Tryz.underlying20
  a20 := Tryz.isAgg20
  z20 := Tryz.sizeOf20
  v20 := Tryz.zeroValue20
  t37 := Tryz.underlying27
  a37 := Tryz.isAgg27
  z37 := Tryz.sizeOf27
  v37 := Tryz.zeroValue27
  t46 := Tryz.underlying56
  a46 := Tryz.isAgg56
  z46 := Tryz.sizeOf56
  v46 := Tryz.zeroValue56
  t51 := Tryz.underlying70
  a51 := Tryz.isAgg70
  z51 := Tryz.sizeOf70
  v51 := Tryz.zeroValue70
  t53 := Tryz.underlying139
  a53 := Tryz.isAgg139
  z53 := Tryz.sizeOf139
  v53 := Tryz.zeroValue139
  t75 := Tryz.underlying83
  a75 := Tryz.isAgg83
  z75 := Tryz.sizeOf83
  v75 := Tryz.zeroValue83
  t127 := Tryz.underlying120
  a127 := Tryz.isAgg120
  z127 := Tryz.sizeOf120
  v127 := Tryz.zeroValue120
  t143 := Tryz.underlying218
  a143 := Tryz.isAgg218
  z143 := Tryz.sizeOf218
  v143 := Tryz.zeroValue218
  t145 := Tryz.underlying220
  a145 := Tryz.isAgg220
  z145 := Tryz.sizeOf220
  v145 := Tryz.zeroValue220
  t167 := Tryz.underlying182
  a167 := Tryz.isAgg182
  z167 := Tryz.sizeOf182
  v167 := Tryz.zeroValue182
  t168 := Tryz.underlying184
  a168 := Tryz.isAgg184
  z168 := Tryz.sizeOf184
  v168 := Tryz.zeroValue184
  t171 := Tryz.underlying166
  a171 := Tryz.isAgg166
  z171 := Tryz.sizeOf166
  v171 := Tryz.zeroValue166
  t173 := Tryz.underlying169
  a173 := Tryz.isAgg169
  z173 := Tryz.sizeOf169
  v173 := Tryz.zeroValue169
  t210 := Tryz.underlying211
  a210 := Tryz.isAgg211
  z210 := Tryz.sizeOf211
  v210 := Tryz.zeroValue211
  t212 := Tryz.underlying192
  a212 := Tryz.isAgg192
  z212 := Tryz.sizeOf192
  v212 := Tryz.zeroValue192
  t213 := Tryz.underlying193
  a213 := Tryz.isAgg193
  z213 := Tryz.sizeOf193
  t232 := Tryz.underlying225
  a232 := Tryz.isAgg225
  z232 := Tryz.sizeOf225
  v232 := Tryz.zeroValue225
  t233 := Tryz.underlying226
  a233 := Tryz.isAgg226
  z233 := Tryz.sizeOf226
  v233 := Tryz.zeroValue226
  g15 := by kernel_rfl
  g16 := by kernel_rfl
  g17 := by kernel_rfl
  g18 := by kernel_rfl
  g19 := by kernel_rfl
  t80 := Tryz.underlying85
  a80 := Tryz.isAgg85
  z80 := Tryz.sizeOf85
  v80 := Tryz.zeroValue85
  i0 := by kernel_rfl
  i2 := by kernel_rfl
  i3 := by kernel_rfl
  i4 := by kernel_rfl
  i5 := by kernel_rfl
  i9 := by kernel_rfl
  i20 := by kernel_rfl
  i37 := by kernel_rfl
  i46 := by kernel_rfl
  i51 := by kernel_rfl
  i53 := by kernel_rfl
  i75 := by kernel_rfl
  i80 := by kernel_rfl
  i127 := by kernel_rfl
  i143 := by kernel_rfl
  i145 := by kernel_rfl
  i167 := by kernel_rfl
  i168 := by kernel_rfl
  i171 := by kernel_rfl
  i173 := by kernel_rfl
  i210 := by kernel_rfl
  i212 := by kernel_rfl
  i232 := by kernel_rfl
  i233 := by kernel_rfl
  m15 := by kernel_rfl
  m16 := by kernel_rfl
  m17 := by kernel_rfl
  m18 := by kernel_rfl
  m19 := by kernel_rfl
  c0 := by kernel_rfl
  c2 := by kernel_rfl
  c3 := by kernel_rfl
  c4 := by kernel_rfl
  c5 := by kernel_rfl
  c9 := by kernel_rfl
  c20 := by kernel_rfl
  c37 := by kernel_rfl
  c46 := by kernel_rfl
  c51 := by kernel_rfl
  c53 := by kernel_rfl
  c75 := by kernel_rfl
  c80 := by kernel_rfl
  c127 := by kernel_rfl
  c143 := by kernel_rfl
  c145 := by kernel_rfl
  c167 := by kernel_rfl
  c168 := by kernel_rfl
  c171 := by kernel_rfl
  c173 := by kernel_rfl
  c210 := by kernel_rfl
  c212 := by kernel_rfl
  c213 := by kernel_rfl
  c232 := by kernel_rfl
  c233 := by kernel_rfl }
open Go.RowKit in
theorem Tryz.strconv_toError_syntax (fn s : ByteArray) (base bits : Int) (ev : Value) (w : World) (hlim : s.size ≤ 281474976710656) (hv : w.cell? ⟨2, 0, none⟩ = some ev) (hev : ev = .nilIface ∨ ∃ te pe, ev = .iface te pe) :
    Calls Tryz.prog 139 #[.string fn, .string s, .int .i64 base, .int .i64 bits, .iface 182 (.int .i64 2)] w fun e w' => ∃ N, e = .returned (.iface 184 (.pointer (some ⟨N, 0, none⟩))) ∧ w.heap.size ≤ N ∧ w'.heap[N]? = some (.cells #[.string fn, .string s, ev] 211 (0, 0)) ∧ Below w.heap.size w w' := Any.strconv_toError_syntax Tryz.laysC245 fn s base bits ev w hlim hv hev
def Tryz.lays321_ren : Go.Shelf.Ren := ⟨fun | 321 => 163 | n => n, fun | 5 => 5 | n => n, fun | n => n⟩
theorem Tryz.lays321 : Go.Proofs.Lays.n321 Tryz.prog Tryz.lays321_ren := {
  mixed := by kernel_rfl
  f321 := Tryz.func163.trans (congrArg some (by kernel_rfl))
  t5 := Tryz.underlying5
  a5 := Tryz.isAgg5
  z5 := Tryz.sizeOf5
  v5 := Tryz.zeroValue5 }
open Go.RowKit in
theorem Tryz.internal_strconv_lower (c : Int) (w : World) :
    Calls Tryz.prog 163 #[.int .u8 c] w fun e w' => e = .returned (.int .u8 (bits .or .u8 c 32)) ∧ w' = w := Any.internal_strconv_lower Tryz.lays321 c w
open Go.RowKit in
theorem Tryz.strconv_toError_range (fn s : ByteArray) (base bits : Int) (ev : Value) (w : World) (hlim : s.size ≤ 281474976710656) (hv : w.cell? ⟨3, 0, none⟩ = some ev) (hev : ev = .nilIface ∨ ∃ te pe, ev = .iface te pe) :
    Calls Tryz.prog 139 #[.string fn, .string s, .int .i64 base, .int .i64 bits, .iface 182 (.int .i64 1)] w fun e w' => ∃ N, e = .returned (.iface 184 (.pointer (some ⟨N, 0, none⟩))) ∧ w.heap.size ≤ N ∧ w'.heap[N]? = some (.cells #[.string fn, .string s, ev] 211 (0, 0)) ∧ Below w.heap.size w w' := Any.strconv_toError_range Tryz.laysC245 fn s base bits ev w hlim hv hev
def Tryz.laysPu14_ren : Go.Shelf.Ren := ⟨fun | 14 => 124 | 16 => 138 | 17 => 139 | 19 => 163 | 20 => 164 | 21 => 165 | 22 => 166 | 23 => 167 | 24 => 168 | 25 => 188 | 27 => 102 | 26 => 189 | 28 => 130 | 29 => 150 | 30 => 146 | 31 => 147 | 32 => 148 | 33 => 149 | 35 => 174 | 34 => 173 | 36 => 175 | 37 => 176 | 38 => 177 | 39 => 191 | 40 => 192 | n => n, fun | 9 => 9 | 3 => 3 | 22 => 139 | 24 => 83 | 25 => 153 | 4 => 4 | 34 => 182 | 5 => 5 | 36 => 56 | 37 => 27 | 0 => 0 | 39 => 184 | 21 => 21 | 44 => 211 | 47 => 120 | 50 => 220 | 48 => 218 | 2 => 2 | 52 => 166 | 55 => 169 | 59 => 192 | 60 => 70 | 20 => 20 | 61 => 193 | 65 => 225 | 66 => 226 | 67 => 85 | n => n, fun | 0 => 2 | 1 => 3 | 2 => 1 | 3 => 6 | 4 => 7 | n => n⟩
theorem Tryz.laysPu14 : Go.Proofs.LaysPu.n14 Tryz.prog Tryz.laysPu14_ren := {
  mixed := by kernel_rfl
  f14 := Tryz.func124.trans (congrArg some (by kernel_rfl))
  f16 := Tryz.func138.trans (congrArg some (by kernel_rfl))
  f17 := Tryz.func139.trans (congrArg some (by kernel_rfl))
  f19 := Tryz.func163.trans (congrArg some (by kernel_rfl))
  f20 := Tryz.func164.trans (congrArg some (by kernel_rfl))
  f21 := Tryz.func165.trans (congrArg some (by kernel_rfl))
  f22 := Tryz.func166.trans (congrArg some (by kernel_rfl))
  f23 := Tryz.func167.trans (congrArg some (by kernel_rfl))
  f24 := Tryz.func168.trans (congrArg some (by kernel_rfl))
  f25 := Tryz.func188.trans (congrArg some (by kernel_rfl))
  f26 := Tryz.func189.trans (congrArg some (by kernel_rfl))
  f27 := Tryz.func102.trans (congrArg some (by kernel_rfl))
  f28 := Tryz.func130.trans (congrArg some (by kernel_rfl))
  f29 := Tryz.func150.trans (congrArg some (by kernel_rfl))
  f30 := Tryz.func146.trans (congrArg some (by kernel_rfl))
  f31 := Tryz.func147.trans (congrArg some (by kernel_rfl))
  f32 := Tryz.func148.trans (congrArg some (by kernel_rfl))
  f33 := Tryz.func149.trans (congrArg some (by kernel_rfl))
  f34 := Tryz.func173.trans (congrArg some (by kernel_rfl))
  f35 := Tryz.func174.trans (congrArg some (by kernel_rfl))
  f36 := Tryz.func175.trans (congrArg some (by kernel_rfl))
  f37 := Tryz.func176.trans (congrArg some (by kernel_rfl))
  f38 := Tryz.func177.trans (congrArg some (by kernel_rfl))
  f39 := Tryz.func191.trans (congrArg some (by kernel_rfl))
  f40 := Tryz.func192.trans (congrArg some (by kernel_rfl))
  t0 := Tryz.underlying0
  a0 := Tryz.isAgg0
  z0 := Tryz.sizeOf0
  v0 := Tryz.zeroValue0
  i0 := by kernel_rfl
  t2 := Tryz.underlying2
  a2 := Tryz.isAgg2
  z2 := Tryz.sizeOf2
  v2 := Tryz.zeroValue2
  i2 := by kernel_rfl
  t3 := Tryz.underlying3
  a3 := Tryz.isAgg3
  z3 := Tryz.sizeOf3
  v3 := Tryz.zeroValue3
  i3 := by kernel_rfl
  t4 := Tryz.underlying4
  a4 := Tryz.isAgg4
  z4 := Tryz.sizeOf4
  v4 := Tryz.zeroValue4
  i4 := by kernel_rfl
  t5 := Tryz.underlying5
  a5 := Tryz.isAgg5
  z5 := Tryz.sizeOf5
  v5 := Tryz.zeroValue5
  i5 := by kernel_rfl
  t9 := Tryz.underlying9
  a9 := Tryz.isAgg9
  z9 := Tryz.sizeOf9
  v9 := Tryz.zeroValue9
  i9 := by kernel_rfl
  t20 := Tryz.underlying20
  a20 := Tryz.isAgg20
  z20 := Tryz.sizeOf20
  v20 := Tryz.zeroValue20
  i20 := by kernel_rfl
  t21 := Tryz.underlying21
  a21 := Tryz.isAgg21
  z21 := Tryz.sizeOf21
  v21 := Tryz.zeroValue21
  i21 := by kernel_rfl
  t22 := Tryz.underlying139
  a22 := Tryz.isAgg139
  z22 := Tryz.sizeOf139
  v22 := Tryz.zeroValue139
  i22 := by kernel_rfl
  t24 := Tryz.underlying83
  a24 := Tryz.isAgg83
  z24 := Tryz.sizeOf83
  v24 := Tryz.zeroValue83
  i24 := by kernel_rfl
  t25 := Tryz.underlying153
  a25 := Tryz.isAgg153
  z25 := Tryz.sizeOf153
  v25 := Tryz.zeroValue153
  i25 := by kernel_rfl
  t34 := Tryz.underlying182
  a34 := Tryz.isAgg182
  z34 := Tryz.sizeOf182
  v34 := Tryz.zeroValue182
  i34 := by kernel_rfl
  c34 := by kernel_rfl
  t36 := Tryz.underlying56
  a36 := Tryz.isAgg56
  z36 := Tryz.sizeOf56
  v36 := Tryz.zeroValue56
  i36 := by kernel_rfl
  t37 := Tryz.underlying27
  a37 := Tryz.isAgg27
  z37 := Tryz.sizeOf27
  v37 := Tryz.zeroValue27
  i37 := by kernel_rfl
  t39 := Tryz.underlying184
  a39 := Tryz.isAgg184
  z39 := Tryz.sizeOf184
  v39 := Tryz.zeroValue184
  i39 := by kernel_rfl
  t44 := Tryz.underlying211
  a44 := Tryz.isAgg211
  z44 := Tryz.sizeOf211
  v44 := Tryz.zeroValue211
  i44 := by kernel_rfl
  t47 := Tryz.underlying120
  a47 := Tryz.isAgg120
  z47 := Tryz.sizeOf120
  v47 := Tryz.zeroValue120
  i47 := by kernel_rfl
  t48 := Tryz.underlying218
  a48 := Tryz.isAgg218
  z48 := Tryz.sizeOf218
  v48 := Tryz.zeroValue218
  i48 := by kernel_rfl
  t50 := Tryz.underlying220
  a50 := Tryz.isAgg220
  z50 := Tryz.sizeOf220
  v50 := Tryz.zeroValue220
  i50 := by kernel_rfl
  t52 := Tryz.underlying166
  a52 := Tryz.isAgg166
  z52 := Tryz.sizeOf166
  v52 := Tryz.zeroValue166
  i52 := by kernel_rfl
  t55 := Tryz.underlying169
  a55 := Tryz.isAgg169
  z55 := Tryz.sizeOf169
  v55 := Tryz.zeroValue169
  i55 := by kernel_rfl
  t59 := Tryz.underlying192
  a59 := Tryz.isAgg192
  z59 := Tryz.sizeOf192
  v59 := Tryz.zeroValue192
  i59 := by kernel_rfl
  t60 := Tryz.underlying70
  a60 := Tryz.isAgg70
  z60 := Tryz.sizeOf70
  v60 := Tryz.zeroValue70
  i60 := by kernel_rfl
  t61 := Tryz.underlying193
  a61 := Tryz.isAgg193
  z61 := Tryz.sizeOf193
  t65 := Tryz.underlying225
  a65 := Tryz.isAgg225
  z65 := Tryz.sizeOf225
  v65 := Tryz.zeroValue225
  i65 := by kernel_rfl
  t66 := Tryz.underlying226
  a66 := Tryz.isAgg226
  z66 := Tryz.sizeOf226
  v66 := Tryz.zeroValue226
  i66 := by kernel_rfl
  t67 := Tryz.underlying85
  a67 := Tryz.isAgg85
  z67 := Tryz.sizeOf85
  v67 := Tryz.zeroValue85
  i67 := by kernel_rfl
  g0 := by kernel_rfl
  m0 := by kernel_rfl
  g1 := by kernel_rfl
  m1 := by kernel_rfl
  g2 := by kernel_rfl
  m2 := by kernel_rfl
  g3 := by kernel_rfl
  m3 := by kernel_rfl
  g4 := by kernel_rfl
  m4 := by kernel_rfl }
open Go.RowKit in
theorem Tryz.strconv_ParseUint_10_at32_ok (s : ByteArray) (hmax : s.size ≤ 9223372036854775806) (u : Nat) (h : Lib.parseUintB 32 s.data.toList = .ok u) (w : World) :
    Calls Tryz.prog 124 #[.string s, .int .i64 10, .int .i64 32] w fun e w' => e = .returned (.tuple #[.int .u64 u, .nilIface]) ∧ (w' = w ∨ w' = Lib.bytesWorld w 5 s) := Any.strconv_ParseUint_10_at32_ok Tryz.laysPu14 s hmax u h w
open Go.RowKit in
theorem Tryz.strconv_ParseUint_10_at8_ok (s : ByteArray) (hmax : s.size ≤ 9223372036854775806) (u : Nat) (h : Lib.parseUintB 8 s.data.toList = .ok u) (w : World) :
    Calls Tryz.prog 124 #[.string s, .int .i64 10, .int .i64 8] w fun e w' => e = .returned (.tuple #[.int .u64 u, .nilIface]) ∧ (w' = w ∨ w' = Lib.bytesWorld w 5 s) := Any.strconv_ParseUint_10_at8_ok Tryz.laysPu14 s hmax u h w
open Go.RowKit in
theorem Tryz.strconv_ParseUint_10_at32_syntax_var (s : ByteArray) (hlim : s.size ≤ 281474976710656) (h : Lib.parseUintB 32 s.data.toList = .«syntax») (tp : TypeId) (p : Value) (w : World) (hvar : w.var? Tryz.prog "strconv.ErrSyntax" = some #[.iface tp p]) :
    Calls Tryz.prog 124 #[.string s, .int .i64 10, .int .i64 32] w fun e w' => ∃ N, e = .returned (.tuple #[.int .u64 0, .iface 184 (.pointer (some ⟨N, 0, none⟩))]) ∧ w.heap.size ≤ N ∧ w'.heap[N]? = some (.cells #[.string ⟨#[80, 97, 114, 115, 101, 85, 105, 110, 116]⟩, .string s, .iface tp p] 211 (0, 0)) ∧ Below w.heap.size w w' := Any.strconv_ParseUint_10_at32_syntax_var Tryz.laysPu14 s hlim h tp p w hvar
open Go.RowKit in
theorem Tryz.strconv_ParseUint_10_at32_range_var (s : ByteArray) (hlim : s.size ≤ 281474976710656) (h : Lib.parseUintB 32 s.data.toList = .range) (tp : TypeId) (p : Value) (w : World) (hvar : w.var? Tryz.prog "strconv.ErrRange" = some #[.iface tp p]) :
    Calls Tryz.prog 124 #[.string s, .int .i64 10, .int .i64 32] w fun e w' => ∃ N, e = .returned (.tuple #[.int .u64 4294967295, .iface 184 (.pointer (some ⟨N, 0, none⟩))]) ∧ w.heap.size ≤ N ∧ w'.heap[N]? = some (.cells #[.string ⟨#[80, 97, 114, 115, 101, 85, 105, 110, 116]⟩, .string s, .iface tp p] 211 (0, 0)) ∧ Below w.heap.size w w' := Any.strconv_ParseUint_10_at32_range_var Tryz.laysPu14 s hlim h tp p w hvar
open Go.RowKit in
theorem Tryz.strconv_ParseUint_10_at8_syntax_var (s : ByteArray) (hlim : s.size ≤ 281474976710656) (h : Lib.parseUintB 8 s.data.toList = .«syntax») (tp : TypeId) (p : Value) (w : World) (hvar : w.var? Tryz.prog "strconv.ErrSyntax" = some #[.iface tp p]) :
    Calls Tryz.prog 124 #[.string s, .int .i64 10, .int .i64 8] w fun e w' => ∃ N, e = .returned (.tuple #[.int .u64 0, .iface 184 (.pointer (some ⟨N, 0, none⟩))]) ∧ w.heap.size ≤ N ∧ w'.heap[N]? = some (.cells #[.string ⟨#[80, 97, 114, 115, 101, 85, 105, 110, 116]⟩, .string s, .iface tp p] 211 (0, 0)) ∧ Below w.heap.size w w' := Any.strconv_ParseUint_10_at8_syntax_var Tryz.laysPu14 s hlim h tp p w hvar
open Go.RowKit in
theorem Tryz.strconv_ParseUint_10_at8_range_var (s : ByteArray) (hlim : s.size ≤ 281474976710656) (h : Lib.parseUintB 8 s.data.toList = .range) (tp : TypeId) (p : Value) (w : World) (hvar : w.var? Tryz.prog "strconv.ErrRange" = some #[.iface tp p]) :
    Calls Tryz.prog 124 #[.string s, .int .i64 10, .int .i64 8] w fun e w' => ∃ N, e = .returned (.tuple #[.int .u64 255, .iface 184 (.pointer (some ⟨N, 0, none⟩))]) ∧ w.heap.size ≤ N ∧ w'.heap[N]? = some (.cells #[.string ⟨#[80, 97, 114, 115, 101, 85, 105, 110, 116]⟩, .string s, .iface tp p] 211 (0, 0)) ∧ Below w.heap.size w w' := Any.strconv_ParseUint_10_at8_range_var Tryz.laysPu14 s hlim h tp p w hvar
def Tryz.lays144_ren : Go.Shelf.Ren := ⟨fun | 144 => 65 | 143 => 97 | 219 => 126 | 217 => 132 | 225 => 142 | 224 => 143 | 267 => 144 | 266 => 151 | 314 => 172 | n => n, fun | 9 => 9 | 4 => 4 | 3 => 3 | 5 => 5 | 46 => 56 | 146 => 189 | 51 => 70 | n => n, fun | 1 => 0 | n => n⟩
theorem Tryz.lays144 : Go.Proofs.Lays.n144 Tryz.prog Tryz.lays144_ren := {
  mixed := by kernel_rfl
  f143 := Tryz.func97.trans (congrArg some (by kernel_rfl))
  f144 := Tryz.func65.trans (congrArg some (by kernel_rfl))
  f217 := Tryz.func132.trans (congrArg some (by kernel_rfl))
  f219 := Tryz.func126.trans (congrArg some (by kernel_rfl))
  f224 := Tryz.func143.trans (congrArg some (by kernel_rfl))
  f225 := Tryz.func142.trans (congrArg some (by kernel_rfl))
  f266 := Tryz.func151.trans (congrArg some (by kernel_rfl))
  f267 := Tryz.func144.trans (congrArg some (by kernel_rfl))
  f314 := Tryz.func172.trans (congrArg some (by kernel_rfl))
  t3 := Tryz.underlying3
  a3 := Tryz.isAgg3
  z3 := Tryz.sizeOf3
  v3 := Tryz.zeroValue3
  t4 := Tryz.underlying4
  a4 := Tryz.isAgg4
  z4 := Tryz.sizeOf4
  v4 := Tryz.zeroValue4
  t5 := Tryz.underlying5
  a5 := Tryz.isAgg5
  z5 := Tryz.sizeOf5
  v5 := Tryz.zeroValue5
  t9 := Tryz.underlying9
  a9 := Tryz.isAgg9
  z9 := Tryz.sizeOf9
  v9 := Tryz.zeroValue9
  t46 := Tryz.underlying56
  a46 := Tryz.isAgg56
  z46 := Tryz.sizeOf56
  v46 := Tryz.zeroValue56
  t51 := Tryz.underlying70
  a51 := Tryz.isAgg70
  z51 := Tryz.sizeOf70
  v51 := Tryz.zeroValue70
  t146 := Tryz.underlying189
  a146 := Tryz.isAgg189
  z146 := Tryz.sizeOf189
  v146 := Tryz.zeroValue189
  g1 := by kernel_rfl }
open Go.RowKit Go.Lib in
theorem Tryz.strings_Contains_one (s : ByteArray) (c : UInt8) (w : World) :
    Calls Tryz.prog 65 #[.string s, .string ⟨#[c]⟩] w fun e w' => e = .returned (.bool (decide (0 ≤ Lib.indexByte s.data.toList c))) ∧ w' = w := Any.strings_Contains_one Tryz.lays144 s c w
def Tryz.lays145_ren : Go.Shelf.Ren := ⟨fun | 145 => 98 | 220 => 127 | 219 => 126 | 217 => 132 | 225 => 142 | 224 => 143 | 267 => 144 | 266 => 151 | 314 => 172 | n => n, fun | 9 => 9 | 4 => 4 | 59 => 135 | 3 => 3 | 5 => 5 | 46 => 56 | 146 => 189 | 51 => 70 | n => n, fun | 1 => 0 | n => n⟩
theorem Tryz.lays145 : Go.Proofs.Lays.n145 Tryz.prog Tryz.lays145_ren := {
  mixed := by kernel_rfl
  f145 := Tryz.func98.trans (congrArg some (by kernel_rfl))
  f217 := Tryz.func132.trans (congrArg some (by kernel_rfl))
  f219 := Tryz.func126.trans (congrArg some (by kernel_rfl))
  f220 := Tryz.func127.trans (congrArg some (by kernel_rfl))
  f224 := Tryz.func143.trans (congrArg some (by kernel_rfl))
  f225 := Tryz.func142.trans (congrArg some (by kernel_rfl))
  f266 := Tryz.func151.trans (congrArg some (by kernel_rfl))
  f267 := Tryz.func144.trans (congrArg some (by kernel_rfl))
  f314 := Tryz.func172.trans (congrArg some (by kernel_rfl))
  t3 := Tryz.underlying3
  a3 := Tryz.isAgg3
  z3 := Tryz.sizeOf3
  v3 := Tryz.zeroValue3
  t4 := Tryz.underlying4
  a4 := Tryz.isAgg4
  z4 := Tryz.sizeOf4
  v4 := Tryz.zeroValue4
  t5 := Tryz.underlying5
  a5 := Tryz.isAgg5
  z5 := Tryz.sizeOf5
  v5 := Tryz.zeroValue5
  t9 := Tryz.underlying9
  a9 := Tryz.isAgg9
  z9 := Tryz.sizeOf9
  v9 := Tryz.zeroValue9
  t46 := Tryz.underlying56
  a46 := Tryz.isAgg56
  z46 := Tryz.sizeOf56
  v46 := Tryz.zeroValue56
  t51 := Tryz.underlying70
  a51 := Tryz.isAgg70
  z51 := Tryz.sizeOf70
  v51 := Tryz.zeroValue70
  t59 := Tryz.underlying135
  a59 := Tryz.isAgg135
  z59 := Tryz.sizeOf135
  v59 := Tryz.zeroValue135
  t146 := Tryz.underlying189
  a146 := Tryz.isAgg189
  z146 := Tryz.sizeOf189
  v146 := Tryz.zeroValue189
  g1 := by kernel_rfl }
open Go.RowKit Go.Lib in
theorem Tryz.strings_Cut (s sep : ByteArray) (m : Int) (w : World) (hs : s.size < 4294967281) (hm : w.cell? ⟨0, 0, none⟩ = some (.int .i64 m)) :
    Calls Tryz.prog 98 #[.string s, .string sep] w fun e w' => e = .returned (.tuple #[.string ⟨(Lib.cut s.data.toList sep.data.toList).1.toArray⟩, .string ⟨(Lib.cut s.data.toList sep.data.toList).2.1.toArray⟩, .bool (Lib.cut s.data.toList sep.data.toList).2.2]) ∧ ∃ n, w' = w.drewN n := Any.strings_Cut Tryz.lays145 s sep m w hs hm
def Tryz.lays146_ren : Go.Shelf.Ren := ⟨fun | 146 => 95 | 221 => 125 | 268 => 140 | 138 => 141 | 143 => 97 | 195 => 169 | 197 => 170 | 218 => 171 | 219 => 126 | 260 => 190 | 217 => 132 | 225 => 142 | 224 => 143 | 267 => 144 | 266 => 151 | 314 => 172 | n => n, fun | 9 => 9 | 31 => 26 | 3 => 3 | 4 => 4 | 0 => 0 | 105 => 187 | 21 => 21 | 5 => 5 | 46 => 56 | 119 => 221 | 139 => 224 | 138 => 223 | 146 => 189 | 51 => 70 | n => n, fun | 1 => 0 | 3 => 4 | 4 => 5 | n => n⟩
theorem Tryz.lays146 : Go.Proofs.Lays.n146 Tryz.prog Tryz.lays146_ren := {
  mixed := by kernel_rfl
  f138 := Tryz.func141.trans (congrArg some (by kernel_rfl))
  f143 := Tryz.func97.trans (congrArg some (by kernel_rfl))
  f146 := Tryz.func95.trans (congrArg some (by kernel_rfl))
  f195 := Tryz.func169.trans (congrArg some (by kernel_rfl))
  f197 := Tryz.func170.trans (congrArg some (by kernel_rfl))
  f217 := Tryz.func132.trans (congrArg some (by kernel_rfl))
  f218 := Tryz.func171.trans (congrArg some (by kernel_rfl))
  f219 := Tryz.func126.trans (congrArg some (by kernel_rfl))
  f221 := Tryz.func125.trans (congrArg some (by kernel_rfl))
  f224 := Tryz.func143.trans (congrArg some (by kernel_rfl))
  f225 := Tryz.func142.trans (congrArg some (by kernel_rfl))
  f260 := Tryz.func190.trans (congrArg some (by kernel_rfl))
  f266 := Tryz.func151.trans (congrArg some (by kernel_rfl))
  f267 := Tryz.func144.trans (congrArg some (by kernel_rfl))
  f268 := Tryz.func140.trans (congrArg some (by kernel_rfl))
  f314 := Tryz.func172.trans (congrArg some (by kernel_rfl))
  t0 := Tryz.underlying0
  a0 := Tryz.isAgg0
  z0 := Tryz.sizeOf0
  v0 := Tryz.zeroValue0
  t3 := Tryz.underlying3
  a3 := Tryz.isAgg3
  z3 := Tryz.sizeOf3
  v3 := Tryz.zeroValue3
  t4 := Tryz.underlying4
  a4 := Tryz.isAgg4
  z4 := Tryz.sizeOf4
  v4 := Tryz.zeroValue4
  t5 := Tryz.underlying5
  a5 := Tryz.isAgg5
  z5 := Tryz.sizeOf5
  v5 := Tryz.zeroValue5
  t9 := Tryz.underlying9
  a9 := Tryz.isAgg9
  z9 := Tryz.sizeOf9
  v9 := Tryz.zeroValue9
  t21 := Tryz.underlying21
  a21 := Tryz.isAgg21
  z21 := Tryz.sizeOf21
  v21 := Tryz.zeroValue21
  t31 := Tryz.underlying26
  a31 := Tryz.isAgg26
  z31 := Tryz.sizeOf26
  v31 := Tryz.zeroValue26
  t46 := Tryz.underlying56
  a46 := Tryz.isAgg56
  z46 := Tryz.sizeOf56
  v46 := Tryz.zeroValue56
  t51 := Tryz.underlying70
  a51 := Tryz.isAgg70
  z51 := Tryz.sizeOf70
  v51 := Tryz.zeroValue70
  t105 := Tryz.underlying187
  a105 := Tryz.isAgg187
  z105 := Tryz.sizeOf187
  v105 := Tryz.zeroValue187
  t119 := Tryz.underlying221
  a119 := Tryz.isAgg221
  z119 := Tryz.sizeOf221
  t138 := Tryz.underlying223
  a138 := Tryz.isAgg223
  z138 := Tryz.sizeOf223
  v138 := Tryz.zeroValue223
  t139 := Tryz.underlying224
  a139 := Tryz.isAgg224
  z139 := Tryz.sizeOf224
  v139 := Tryz.zeroValue224
  t146 := Tryz.underlying189
  a146 := Tryz.isAgg189
  z146 := Tryz.sizeOf189
  v146 := Tryz.zeroValue189
  g1 := by kernel_rfl
  g3 := by kernel_rfl
  g4 := by kernel_rfl }
open Go.RowKit Go.Lib in
theorem Tryz.strings_Split (s sep : ByteArray) (m : Int) (w : World) (hs : s.size < 4294967281) (hm : w.cell? ⟨0, 0, none⟩ = some (.int .i64 m)) (h1 : 1 ≤ sep.size) :
    Calls Tryz.prog 95 #[.string s, .string sep] w fun e w' =>
      e = .returned (.slice (some ⟨w.heap.size, 0, none⟩) (Lib.countB s sep + 1) (Lib.countB s sep + 1)) ∧ w' = w.alloc (.cells ((Lib.splitB sep 0 (Lib.countB s sep) s).map Value.string).toArray 9) := Any.strings_Split Tryz.lays146 (by kernel_rfl) s sep m w hs hm h1
end Go.Proofs
/- What the library's tables and errors hold, and that it lasts; the library's calls in this program's words. -/
namespace Go.Proofs.YtfkfjodfjgjbkaaGreatDoor
open Go.ChangeShapes Go.WideShapes Go.ChangeAt Go.RowKit Go.Sort
set_option linter.unusedVariables false
set_option linter.unusedSimpArgs false

theorem gPow : Tryz.prog.globalNamed "internal/strconv.uint64pow10" = some 1 := by kernel_rfl
theorem gSyn : Tryz.prog.globalNamed "strconv.ErrSyntax" = some 2 := by kernel_rfl
theorem gRng : Tryz.prog.globalNamed "strconv.ErrRange" = some 3 := by kernel_rfl
/-- The table of powers, and the one cell of the other table that base 16 reads. -/
def LayT (w : World) : Prop := Lib.TabIs Tryz.prog w "internal/strconv.uint64pow10" .u64 Lib.pow10Tab ∧ 7 < w.heap.size ∧ w.cell? ⟨7, 15, none⟩ = some (.int .u8 4)
/-- The two errors, and the number that searches ask. -/
def LayE (w : World) : Prop := (∃ tp p, w.var? Tryz.prog "strconv.ErrSyntax" = some #[.iface tp p]) ∧ (∃ tp p, w.var? Tryz.prog "strconv.ErrRange" = some #[.iface tp p]) ∧ 0 < w.heap.size ∧ ∃ m, w.cell? ⟨0, 0, none⟩ = some (.int .i64 m)
theorem cell_below {w w' : World} {g o : Nat} (hb : Below w.heap.size w w') (hg : g < w.heap.size) : w'.cell? ⟨g, o, none⟩ = w.cell? ⟨g, o, none⟩ := by
  unfold World.cell?
  rw [hb.block g hg]
theorem LayT.below {w w' : World} (h : LayT w) (hb : Below w.heap.size w w') : LayT w' := ⟨Joins.tab_stays gPow h.1 hb (Nat.le_refl _), Nat.lt_of_lt_of_le h.2.1 hb.size, by rw [cell_below hb h.2.1]; exact h.2.2⟩
theorem LayE.below {w w' : World} (h : LayE w) (hb : Below w.heap.size w w') : LayE w' := by
  obtain ⟨⟨tp, p, h1⟩, ⟨tq, q, h2⟩, h3, m, h4⟩ := h
  exact ⟨⟨tp, p, Joins.var_stays gSyn h1 hb (Nat.le_refl _)⟩, ⟨tq, q, Joins.var_stays gRng h2 hb (Nat.le_refl _)⟩, Nat.lt_of_lt_of_le h3 hb.size, m, by rw [cell_below hb h3]; exact h4⟩

theorem itoa_nat (n : Nat) (h1 : n < 9223372036854775808) (w : World) (hL : LayT w) :
    Calls Tryz.prog 102 #[.int .i64 n] w fun e w' => e = .returned (.string ⟨(Lib.decDigits n).toArray⟩) ∧ Hid (Below w.heap.size w w') := by
  refine (Tryz.strconv_Itoa n (by omega) (by omega) w hL.1).mono ?_
  rintro e w' ⟨rfl, k, os, rfl⟩
  rw [Lib.itoa_nonneg]
  exact ⟨rfl, Lib.below_grow _ w (Nat.le_refl _) k os⟩

/-- The new block's bytes are a row of zeros. -/
theorem holds_z (w : World) (T : TypeId) (nd : Nat) (hs : nd ≤ 24) : Holds (fun (b : UInt8) => Value.int .u8 (b.toNat : Int)) (w.alloc (.cells Lib.zeros24 T)) w.heap.size 0 (Array.replicate nd (0 : UInt8)) := fun j hj => by
  have hj' : j < nd := by simpa using hj
  refine ⟨?_, World.frozen?_alloc_new _ _ _ _⟩
  rw [World.cell?_alloc_new, Lib.zeros24_at _ (by omega), getElem!_pos _ j hj]
  simp
theorem fin_z (w : World) (o : Obj) (dk : Array UInt8) (k : Nat) : ∃ os, (putRow (fun (b : UInt8) => Value.int .u8 (b.toNat : Int)) (w.alloc o) w.heap.size 0 dk).drewN k = grow (w.drewN k) os := by
  rw [alloc_eq_grow]
  obtain ⟨os', _, e⟩ := putRow_grow_new (fun (b : UInt8) => Value.int .u8 (b.toNat : Int)) w #[o] w.heap.size 0 dk (Nat.le_refl _)
  exact ⟨os', by rw [e]; rfl⟩

set_option maxHeartbeats 6400000 in
set_option maxRecDepth 100000 in
theorem fmt10_in (u : Nat) (hu64 : u < 18446744073709551616) (w : World) (hL : LayT w) :
    Calls Tryz.prog 129 #[.int .u64 u, .int .i64 10] w fun e w' => e = .returned (.string ⟨(Lib.decDigits u).toArray⟩) ∧ Hid (Below w.heap.size w w') := by
  have HT : Hid (Lib.TabIs Tryz.prog w "internal/strconv.uint64pow10" .u64 Lib.pow10Tab) := hL.1
  clear hL
  by_cases hs : u < 100
  · have hs' : (u : Int) < 100 := by omega
    go_enter Tryz.func129, Tryz.ntmps129
    go_wp2_with fail
    refine (Tryz.internal_strconv_small u hs _).mono ?_
    rintro e w' ⟨rfl, rfl⟩
    go_wp2_with fail
    go_ret
    exact ⟨rfl, Below.refl _ _⟩
  · have hu1 : 1 ≤ u := by omega
    have hs' : ¬ (u : Int) < 100 := by omega
    have hnd20 : Lib.nDigits u ≤ 20 := by have := Lib.numDigits_eq u hu1 hu64; split at this <;> omega
    have hb3 : Lib.nDigits u ≤ 23 := by omega
    have hal : Tryz.prog.arrayLen 166 = 24 := by kernel_rfl
    have hsl1 : ∀ W, (Instr.sliceAt 166 (.pointer (some ⟨w.heap.size, 0, none⟩)) none (some (.int .i64 (Lib.nDigits u : Int))) none).run Tryz.prog W = .ok (.slice (some ⟨w.heap.size, 0, none⟩) (Lib.nDigits u) 24) W := fun W => by
      rw [run_sliceAt_array_h W 166 ⟨w.heap.size, 0, none⟩ (by simp [Program.arrayLen, Program.elem, Tryz.underlying166]) .i64 (Lib.nDigits u : Int) (by omega) (by rw [hal]; omega)]
      go_simp
    have hH0 := holds_z w 166 (Lib.nDigits u) (by omega)
    have hfmt := Tryz.internal_strconv_formatBase10 w.heap.size 0 24 u (Array.replicate (Lib.nDigits u) 0) (w.alloc (.cells Lib.zeros24 166)) hH0 (by rw [Array.size_replicate]; exact Lib.lt_pow_nDigits u) hu64 (by rw [Array.size_replicate]; omega)
    rw [Array.size_replicate] at hfmt
    have HF := Lib.hid hfmt
    have HH0 := Lib.hid hH0
    clear hH0 hal hfmt
    go_enter Tryz.func129, Tryz.ntmps129
    go_wp2_with fail
    refine (Tryz.internal_strconv_numDigits u hu1 hu64 _ (Lib.tabIs_alloc HT.out _)).mono ?_
    rintro e w' ⟨rfl, rfl⟩
    go_wp2_with fail
    refine HF.out.mono ?_
    rintro e w' ⟨rfl, k, v', dk, rfl, hF⟩
    have hcv : (convert 27 9 (.slice (some ⟨w.heap.size, 0, none⟩) (Lib.nDigits u) 24)).run Tryz.prog ((putRow (fun (b : UInt8) => Value.int .u8 (b.toNat : Int)) (w.alloc (.cells Lib.zeros24 166)) w.heap.size 0 dk).drewN k) = .ok (.string ⟨(Lib.decDigits u).toArray⟩) ((putRow (fun (b : UInt8) => Value.int .u8 (b.toNat : Int)) (w.alloc (.cells Lib.zeros24 166)) w.heap.size 0 dk).drewN k) := by
      have h := run_convert_bytes_back (P := Tryz.prog) ((putRow (fun (b : UInt8) => Value.int .u8 (b.toNat : Int)) (w.alloc (.cells Lib.zeros24 166)) w.heap.size 0 dk).drewN k) 27 9 5 ⟨w.heap.size, 0, none⟩ 24 (Lib.decDigits u) Tryz.underlying27 Tryz.underlying5 Tryz.underlying9 (fun j hj => by
        rw [Lib.row_is_numeral hF j hj, Lib.add_plain, World.cell?_drewN]
        exact cell?_putRow (fun (b : UInt8) => Value.int .u8 (b.toNat : Int)) _ w.heap.size 0 _ dk HH0.out (by rw [hF.size, Array.size_replicate]) j (by rw [hF.size]; rw [Lib.decDigits_length] at hj; exact hj))
      rw [Lib.decDigits_length] at h
      exact h
    go_wp2
    go_ret
    obtain ⟨os, eo⟩ := fin_z w (.cells Lib.zeros24 166) dk k
    refine ⟨rfl, ?_⟩
    show Below _ _ _
    rw [eo]
    exact Lib.below_grow _ w (Nat.le_refl _) k os
theorem fmt10 (u : Nat) (hu64 : u < 18446744073709551616) (w : World) (hL : LayT w) :
    Calls Tryz.prog 101 #[.int .u64 u, .int .i64 10] w fun e w' => e = .returned (.string ⟨(Lib.decDigits u).toArray⟩) ∧ Hid (Below w.heap.size w w') := by
  have K : Hid (LayT w) := hL
  go_enter Tryz.func101, Tryz.ntmps101
  go_wp2_with fail
  refine (fmt10_in u hu64 w K.out).mono ?_
  rintro e w' ⟨rfl, H⟩
  go_wp2_with fail
  go_ret
  exact ⟨rfl, H.out⟩
end Go.Proofs.YtfkfjodfjgjbkaaGreatDoor
/- What single bytes are: visible, digits, special; the byte that the front of a text stands for. -/
namespace Go.Proofs.YtfkfjodfjgjbkaaGreatDoor
open Go.ChangeShapes Go.WideShapes Go.ChangeAt Go.RowKit
set_option linter.unusedVariables false
set_option linter.unusedSimpArgs false


def vis (c : Int) : Bool := decide (33 ≤ c) && decide (c ≤ 126)
def dgt (c : Int) : Bool := decide (48 ≤ c) && decide (c ≤ 57)
theorem vis_iff (c : Int) : vis c = true ↔ 33 ≤ c ∧ c ≤ 126 := by simp [vis]
theorem dgt_iff (c : Int) : dgt c = true ↔ 48 ≤ c ∧ c ≤ 57 := by simp [dgt]
theorem ret_bool {a b : Bool} (h : a = b) : Ending.returned (.bool a) = .returned (.bool b) := by rw [h]
set_option maxRecDepth 100000 in
set_option maxHeartbeats 400000 in
theorem vis_any (c : Int) (w : World) : Calls Tryz.prog 200 #[.int .u8 c] w fun e w' => e = .returned (.bool (vis c)) ∧ w' = w := by
  go_enter Tryz.func200, Tryz.ntmps200
  go_wp2
  all_goals
    go_ret
    exact ⟨ret_bool (by simp [vis]; try omega), rfl⟩
set_option maxRecDepth 100000 in
set_option maxHeartbeats 400000 in
theorem dgt_any (c : Int) (w : World) : Calls Tryz.prog 201 #[.int .u8 c] w fun e w' => e = .returned (.bool (dgt c)) ∧ w' = w := by
  go_enter Tryz.func201, Tryz.ntmps201
  go_wp2
  all_goals
    go_ret
    exact ⟨ret_bool (by simp [dgt]; try omega), rfl⟩
/-- The byte that the front of a text stands for, and how many bytes of it say so; 0, if they say none. -/
def v2 (a b : Int) : Int := 10 * (a - 48) + (b - 48)
def v3 (a b c : Int) : Int := 100 * (a - 48) + 10 * (b - 48) + (c - 48)
def num3 (l : List Int) : Int × Int :=
  if l.length < 4 then (0, 0)
  else if dgt (l.getD 1 0) && dgt (l.getD 2 0) && dgt (l.getD 3 0) && decide (v3 (l.getD 1 0) (l.getD 2 0) (l.getD 3 0) ≤ 255) then (v3 (l.getD 1 0) (l.getD 2 0) (l.getD 3 0), 4)
  else (0, 0)
def esc (l : List Int) : Int × Int :=
  if l.length ≤ 1 then (0, 0)
  else if dgt (l.getD 1 0) then num3 l
  else if vis (l.getD 1 0) then (l.getD 1 0, 2) else (0, 0)
def fr (l : List Int) : Int × Int :=
  if !vis (l.getD 0 0) then (0, 0)
  else if l.getD 0 0 == 92 then esc l
  else (l.getD 0 0, 1)
theorem ret_two {a b c d : Int} (h : a = c) (h' : b = d) : Ending.returned (.tuple #[.int .u8 a, .int .i64 b]) = .returned (.tuple #[.int .u8 c, .int .i64 d]) := by rw [h, h']
def num3c (a b c : Int) : Int × Int := if dgt a && dgt b && dgt c && decide (v3 a b c ≤ 255) then (v3 a b c, 4) else (0, 0)
set_option maxRecDepth 100000 in
set_option maxHeartbeats 1000000 in
theorem num3_any (t : ByteArray) (w : World) (ht : t.size ≤ 9223372036854775807) :
    Calls Tryz.prog 202 #[.string t] w fun e w' => e = .returned (.tuple #[.int .u8 (num3 (nums t)).1, .int .i64 (num3 (nums t)).2]) ∧ w' = w := by
  by_cases h4 : t.size < 4
  · have h4' : (t.size : Int) < 4 := by omega
    have e : num3 (nums t) = (0, 0) := by unfold num3; rw [if_pos (by rw [nums_len]; exact h4)]
    go_enter Tryz.func202, Tryz.ntmps202
    go_wp2
    go_ret2
    exact ⟨by rw [e]; rfl, rfl⟩
  · have h4' : ¬ (t.size : Int) < 4 := by omega
    have i1 : 1 < t.size := by omega
    have i2 : 2 < t.size := by omega
    have i3 : 3 < t.size := by omega
    have HE : Hid (num3 (nums t) = num3c (t[1].toNat : Int) (t[2].toNat : Int) (t[3].toNat : Int)) := by
      show num3 (nums t) = _
      unfold num3 num3c
      rw [if_neg (by rw [nums_len]; exact h4), nums_at t 1 i1, nums_at t 2 i2, nums_at t 3 i3]
    have b1 := t[1].toNat_lt
    have b2 := t[2].toNat_lt
    have b3 := t[3].toNat_lt
    go_enter Tryz.func202, Tryz.ntmps202
    go_wp2_with fail
    go_loop [4, 10] (fun n x => (n = .int .i64 0 ∧ x = .int .i64 0) ∨ (n = .int .i64 ((t[1].toNat : Int) - 48) ∧ x = .int .i64 1 ∧ dgt (t[1].toNat : Int) = true) ∨ (n = .int .i64 (v2 (t[1].toNat : Int) (t[2].toNat : Int)) ∧ x = .int .i64 2 ∧ dgt (t[1].toNat : Int) = true ∧ dgt (t[2].toNat : Int) = true) ∨ (n = .int .i64 (v3 (t[1].toNat : Int) (t[2].toNat : Int) (t[3].toNat : Int)) ∧ x = .int .i64 3 ∧ dgt (t[1].toNat : Int) = true ∧ dgt (t[2].toNat : Int) = true ∧ dgt (t[3].toNat : Int) = true)) (fun _ x => 3 - (intOf x).toNat)
    case atStart => exact .inl ⟨rfl, rfl⟩
    case round =>
      rcases hrel with ⟨rfl, rfl⟩ | ⟨rfl, rfl, d1⟩ | ⟨rfl, rfl, d1, d2⟩ | ⟨rfl, rfl, d1, d2, d3⟩
      · go_wp2_with fail
        refine (dgt_any _ _).mono ?_
        rintro e w1 ⟨rfl, rfl⟩
        by_cases d : dgt (t[1].toNat : Int) = true
        · have d' := (dgt_iff _).1 d
          go_wp2
          exact ⟨.inr (.inl ⟨rfl, rfl, d⟩), by decide⟩
        · have d' : dgt (t[1].toNat : Int) = false := by simpa using d
          go_wp2
          go_ret2
          have e : num3c (t[1].toNat : Int) (t[2].toNat : Int) (t[3].toNat : Int) = (0, 0) := by unfold num3c; rw [d']; rfl
          exact ⟨by rw [HE.out, e]; rfl, rfl⟩
      · have e1 := (dgt_iff _).1 d1
        go_wp2_with fail
        refine (dgt_any _ _).mono ?_
        rintro e w1 ⟨rfl, rfl⟩
        by_cases d : dgt (t[2].toNat : Int) = true
        · have d' := (dgt_iff _).1 d
          go_wp2
          exact ⟨.inr (.inr (.inl ⟨congrArg _ (by unfold v2; omega), rfl, d1, d⟩)), by decide⟩
        · have d' : dgt (t[2].toNat : Int) = false := by simpa using d
          go_wp2
          go_ret2
          have e : num3c (t[1].toNat : Int) (t[2].toNat : Int) (t[3].toNat : Int) = (0, 0) := by unfold num3c; rw [d1, d']; rfl
          exact ⟨by rw [HE.out, e]; rfl, rfl⟩
      · have e1 := (dgt_iff _).1 d1
        have e2 := (dgt_iff _).1 d2
        have HV : Hid (v3 (t[1].toNat : Int) (t[2].toNat : Int) (t[3].toNat : Int) = (10 : Int) * v2 (t[1].toNat : Int) (t[2].toNat : Int) + ((t[3].toNat : Int) - 48)) := by show _ = _; unfold v3 v2; omega
        have hv : (0 : Int) ≤ v2 (t[1].toNat : Int) (t[2].toNat : Int) ∧ v2 (t[1].toNat : Int) (t[2].toNat : Int) ≤ 99 := by unfold v2; omega
        go_wp2_with fail
        refine (dgt_any _ _).mono ?_
        rintro e w1 ⟨rfl, rfl⟩
        by_cases d : dgt (t[3].toNat : Int) = true
        · have d' := (dgt_iff _).1 d
          go_wp2
          exact ⟨.inr (.inr (.inr ⟨congrArg _ (by rw [HV.out]), rfl, d1, d2, d⟩)), by decide⟩
        · have d' : dgt (t[3].toNat : Int) = false := by simpa using d
          go_wp2
          go_ret2
          have e : num3c (t[1].toNat : Int) (t[2].toNat : Int) (t[3].toNat : Int) = (0, 0) := by unfold num3c; rw [d1, d2, d']; rfl
          exact ⟨by rw [HE.out, e]; rfl, rfl⟩
      · have e1 := (dgt_iff _).1 d1
        have e2 := (dgt_iff _).1 d2
        have e3 := (dgt_iff _).1 d3
        have hv : (0 : Int) ≤ v3 (t[1].toNat : Int) (t[2].toNat : Int) (t[3].toNat : Int) ∧ v3 (t[1].toNat : Int) (t[2].toNat : Int) (t[3].toNat : Int) ≤ 999 := by unfold v3; omega
        have HC : Hid (num3c (t[1].toNat : Int) (t[2].toNat : Int) (t[3].toNat : Int) = if decide (v3 (t[1].toNat : Int) (t[2].toNat : Int) (t[3].toNat : Int) ≤ 255) then (v3 (t[1].toNat : Int) (t[2].toNat : Int) (t[3].toNat : Int), 4) else (0, 0)) := by show _ = _; unfold num3c; rw [d1, d2, d3]; rfl
        generalize v3 (t[1].toNat : Int) (t[2].toNat : Int) (t[3].toNat : Int) = z at *
        by_cases h : 255 < z
        · go_wp2
          go_ret2
          exact ⟨by rw [HE.out, HC.out, if_neg (by simp; omega)]; rfl, rfl⟩
        · have hz : z % 256 = z := by omega
          go_wp2
          go_ret2
          exact ⟨by rw [HE.out, HC.out, if_pos (by simp; omega)]; rfl, rfl⟩
set_option maxRecDepth 100000 in
set_option maxHeartbeats 1000000 in
theorem fr_any (t : ByteArray) (w : World) (h1 : 1 ≤ t.size) (ht : t.size ≤ 9223372036854775807) :
    Calls Tryz.prog 197 #[.string t] w fun e w' => e = .returned (.tuple #[.int .u8 (fr (nums t)).1, .int .i64 (fr (nums t)).2]) ∧ w' = w := by
  have i0 : 0 < t.size := by omega
  have HE : Hid (fr (nums t) = if !vis (t[0].toNat : Int) then (0, 0) else if (t[0].toNat : Int) == 92 then esc (nums t) else ((t[0].toNat : Int), 1)) := by
    show fr (nums t) = _
    unfold fr
    rw [nums_at t 0 i0]
  have h1' : (1 : Int) ≤ (t.size : Int) := by omega
  go_enter Tryz.func197, Tryz.ntmps197
  go_wp2_with fail
  refine (vis_any _ _).mono ?_
  rintro e w1 ⟨rfl, rfl⟩
  by_cases hv : vis (t[0].toNat : Int) = true
  · by_cases h92 : (t[0].toNat : Int) = 92
    · have HF : Hid (fr (nums t) = esc (nums t)) := by
        show _ = _
        rw [HE.out, hv, h92]; rfl
      clear HE
      by_cases h2 : 1 < t.size
      · have h2' : (1 : Int) < (t.size : Int) := by omega
        have HG : Hid (esc (nums t) = if dgt (t[1].toNat : Int) then num3 (nums t) else if vis (t[1].toNat : Int) then ((t[1].toNat : Int), 2) else (0, 0)) := by
          show esc (nums t) = _
          unfold esc
          rw [if_neg (by rw [nums_len]; omega), nums_at t 1 h2]
        go_wp2_with fail
        refine (dgt_any _ _).mono ?_
        rintro e w2 ⟨rfl, rfl⟩
        by_cases hd : dgt (t[1].toNat : Int) = true
        · have HN : Hid (esc (nums t) = num3 (nums t)) := by show _ = _; rw [HG.out, hd]; rfl
          go_wp2_with fail
          refine (num3_any t _ ht).mono ?_
          rintro e w3 ⟨rfl, rfl⟩
          go_wp2
          go_ret2
          exact ⟨by rw [HF.out, HN.out]; rfl, rfl⟩
        · have hd' : dgt (t[1].toNat : Int) = false := by simpa using hd
          clear hd
          go_wp2_with fail
          refine (vis_any _ _).mono ?_
          rintro e w3 ⟨rfl, rfl⟩
          by_cases hv1 : vis (t[1].toNat : Int) = true
          · have HN : Hid (esc (nums t) = ((t[1].toNat : Int), 2)) := by show _ = _; rw [HG.out, hd', hv1]; rfl
            go_wp2
            go_ret2
            exact ⟨by rw [HF.out, HN.out]; rfl, rfl⟩
          · have hv1' : vis (t[1].toNat : Int) = false := by simpa using hv1
            have HN : Hid (esc (nums t) = (0, 0)) := by show _ = _; rw [HG.out, hd', hv1']; rfl
            clear hv1
            go_wp2
            go_ret2
            exact ⟨by rw [HF.out, HN.out]; rfl, rfl⟩
      · have h2' : ¬ (1 : Int) < (t.size : Int) := by omega
        have HN : Hid (esc (nums t) = (0, 0)) := by show _ = _; unfold esc; rw [if_pos (by rw [nums_len]; omega)]
        go_wp2
        go_ret2
        exact ⟨by rw [HF.out, HN.out]; rfl, rfl⟩
    · have HF : Hid (fr (nums t) = ((t[0].toNat : Int), 1)) := by
        show _ = _
        rw [HE.out, hv, beq_false_of_ne h92]; rfl
      have hb : ((t[0].toNat : Int) != 92) = true := bne_iff_ne.2 h92
      clear HE h92
      go_wp2
      go_ret2
      exact ⟨by rw [HF.out]; rfl, rfl⟩
  · have hv' : vis (t[0].toNat : Int) = false := by simpa using hv
    have HF : Hid (fr (nums t) = (0, 0)) := by show _ = _; rw [HE.out, hv']; rfl
    clear HE hv
    go_wp2
    go_ret2
    exact ⟨by rw [HF.out]; rfl, rfl⟩
end Go.Proofs.YtfkfjodfjgjbkaaGreatDoor
/- What the library's Builder does in a block of its own. -/
namespace Go.Proofs.YtfkfjodfjgjbkaaGreatDoor
open Go.ChangeShapes Go.WideShapes Go.ChangeAt Go.RowKit
set_option linter.unusedVariables false
set_option linter.unusedSimpArgs false


/-- A Builder's block: what it holds of itself, its bytes. -/
def BB (w : World) (b : Nat) (p v : Value) : Prop := w.heap[b]? = some (.cells #[p, v] 81 (0, 0))
theorem BB.lt {w : World} {b : Nat} {p v : Value} (h : BB w b p v) : b < w.heap.size := (Array.getElem?_eq_some_iff.1 h).1
theorem BB.c0 {w : World} {b : Nat} {p v : Value} (h : BB w b p v) : w.cell? ⟨b, 0, none⟩ = some p := by
  have h' : w.heap[b]? = _ := h
  simp [World.cell?, h']
theorem BB.c1 {w : World} {b : Nat} {p v : Value} (h : BB w b p v) : w.cell? ⟨b, 1, none⟩ = some v := by
  have h' : w.heap[b]? = _ := h
  simp [World.cell?, h']
theorem BB.fz {w : World} {b : Nat} {p v : Value} (h : BB w b p v) (i : Nat) : w.frozen? ⟨b, i, none⟩ = false := by
  have h' : w.heap[b]? = _ := h
  simp [World.frozen?, h']
theorem BB.sh {w : World} {b : Nat} {p v : Value} (h : BB w b p v) : w.shape? b = some (81, 2) := by
  have h' : w.heap[b]? = _ := h
  simp [World.shape?, h']
theorem BB.same {w w' : World} {b : Nat} {p v : Value} (h : BB w b p v) (hb : w'.heap[b]? = w.heap[b]?) : BB w' b p v := hb.trans h
theorem call112 (x : Value) (w : World) : (callFunc 112 #[x]).run Tryz.prog w = .ok (.value x) w := by
  rw [run_callFunc_extern (e := Extern.AbiNoEscape.same) Tryz.func112 (by kernel_rfl) (by kernel_rfl) (by kernel_rfl) (by kernel_rfl) _ w]
  rfl
theorem neq_bld (a : Addr) (w : World) : (binOp .neq 79 (.pointer (some a)) (.pointer (some a))).run Tryz.prog w = .ok (.bool false) w := by
  obtain ⟨j, hi⟩ : ∃ j, Tryz.prog.info? 81 = some j := Option.isSome_iff_exists.1 (by kernel_rfl)
  exact Lib.run_neq_ptr_same w a Tryz.underlying79 hi
theorem to_unsafe (w : World) (b : Nat) (h : w.shape? b = some (81, 2)) : (convert 79 146 (.pointer (some ⟨b, 0, none⟩))).run Tryz.prog w = .ok (.pointer (some ⟨b, 0, none⟩)) w := by
  obtain ⟨j, hi⟩ : ∃ j, Tryz.prog.info? 81 = some j := Option.isSome_iff_exists.1 (by kernel_rfl)
  have hz : (Tryz.prog.info? 81).map (·.size) = some 2 := by kernel_rfl
  rw [hi] at hz
  have hj : j.size = 2 := by simpa using hz
  exact Lib.run_to_unsafe w ⟨b, 0, none⟩ Tryz.underlying79 Tryz.underlying146 hi (by omega) h (by simp)
theorem from_unsafe (w : World) (b : Nat) (h : w.shape? b = some (81, 2)) : (convert 146 79 (.pointer (some ⟨b, 0, none⟩))).run Tryz.prog w = .ok (.pointer (some ⟨b, 0, none⟩)) w := by
  obtain ⟨j, hi⟩ : ∃ j, Tryz.prog.info? 81 = some j := Option.isSome_iff_exists.1 (by kernel_rfl)
  exact Lib.run_from_unsafe w ⟨b, 0, none⟩ Tryz.underlying146 Tryz.underlying79 hi h (by kernel_rfl)
set_option maxRecDepth 100000 in
set_option maxHeartbeats 400000 in
theorem check_fresh (b : Nat) (v : Value) (w : World) (h : BB w b (.pointer none) v) :
    Calls Tryz.prog 84 #[.pointer (some ⟨b, 0, none⟩)] w fun e w' => e = .returned (.tuple #[]) ∧ w' = w.setCell ⟨b, 0, none⟩ (.pointer (some ⟨b, 0, none⟩)) := by
  have c0 := h.c0
  have f0 := h.fz 0
  have h1 := call112
  have h2 := to_unsafe w b h.sh
  have h3 := from_unsafe w b h.sh
  have h4 := neq_bld ⟨b, 0, none⟩
  clear h
  go_enter Tryz.func84, Tryz.ntmps84
  go_wp2
  go_end0
  exact ⟨rfl, rfl⟩
set_option maxRecDepth 100000 in
set_option maxHeartbeats 400000 in
theorem check_used (b : Nat) (v : Value) (w : World) (h : BB w b (.pointer (some ⟨b, 0, none⟩)) v) :
    Calls Tryz.prog 84 #[.pointer (some ⟨b, 0, none⟩)] w fun e w' => e = .returned (.tuple #[]) ∧ w' = w := by
  have c0 := h.c0
  have h4 := neq_bld ⟨b, 0, none⟩
  clear h
  go_enter Tryz.func84, Tryz.ntmps84
  go_wp2
  go_end0
  exact ⟨rfl, rfl⟩
theorem below_row {B : Nat} {w0 w w' : World} {b : Nat} (hb : Below B w0 w) (hlt : b < w.heap.size) (hg : w.grownBy w' (some b)) (hB : B ≤ b) : Below B w0 w' :=
  hb.grown hg (by omega) (fun k e => by have := Option.some.inj e; omega)
/-- A Builder with room for N bytes that holds bs. -/
def BSt (B : Nat) (w : World) (b N : Nat) (bs : List Value) : Prop :=
  (N = 0 ∧ bs = [] ∧ BB w b (.pointer (some ⟨b, 0, none⟩)) (.slice none 0 0)) ∨
  ∃ g c, BB w b (.pointer (some ⟨b, 0, none⟩)) (.slice (some ⟨g, 0, none⟩) bs.length c) ∧ w.ownsRow B 5 1 (.slice (some ⟨g, 0, none⟩) bs.length c) bs.length bs ∧ N ≤ c ∧ g ≠ b ∧ g < w.heap.size ∧ 0 < c
set_option maxRecDepth 100000 in
set_option maxHeartbeats 1000000 in
theorem bwrite (B b N : Nat) (bs : List Value) (z : Int) (w : World) (h : BSt B w b N bs) (hN : bs.length + 1 ≤ N) (hB : B ≤ b) :
    Calls Tryz.prog 48 #[.pointer (some ⟨b, 0, none⟩), .int .u8 z] w fun e w' => e = .returned .nilIface ∧ Hid (BSt B w' b N (bs ++ [.int .u8 z]) ∧ Below B w w') := by
  rcases h with ⟨h0, _⟩ | ⟨g, c, h1, h2, h3, h4, h5, h6⟩
  · omega
  have HB : Hid (BB w b (.pointer (some ⟨b, 0, none⟩)) (.slice (some ⟨g, 0, none⟩) bs.length c) ∧ w.ownsRow B 5 1 (.slice (some ⟨g, 0, none⟩) bs.length c) bs.length bs) := ⟨h1, h2⟩
  have c1 := h1.c1
  have hlt := h1.lt
  have f1 := h1.fz 1
  clear h1 h2
  go_enter Tryz.func48, Tryz.ntmps48
  go_wp2_with fail
  refine (check_used b _ _ HB.out.1).mono ?_
  rintro e w1 ⟨rfl, rfl⟩
  obtain ⟨i5, hi, hz0, hz1, hz2⟩ := info_parts Tryz.info5
  have HI : Hid (Tryz.prog.info? 5 = some i5 ∧ i5.size = 1) := ⟨hi, hz1⟩
  clear hi hz0 hz1 hz2
  have HO : Hid ((w1.alloc (.cells #[.int .u8 z] 5)).ownsRow B 5 1 (.slice (some ⟨g, 0, none⟩) bs.length c) bs.length bs) := HB.out.2.alloc _
  have HC : Hid (∀ j u, ([.int .u8 z] : List Value)[j]? = some u → (w1.alloc (.cells #[.int .u8 z] 5)).cell? ((⟨w1.heap.size, 0, none⟩ : Addr).add j) = some u) := by
    intro j u hu
    have hj : j = 0 := by have := (List.getElem?_eq_some_iff.1 hu).1; simp at this; omega
    subst hj
    simp at hu
    subst hu
    simp [go_sem, Addr.add]
  go_wp2_with (at_builtin; refine wpList_append_fits _ rfl _ _ 27 rfl B 5 i5 1 Tryz.underlying27 HI.out.1 HI.out.2 g bs.length c bs rfl HO.out ⟨w1.heap.size, 0, none⟩ 1 1 [.int .u8 z] rfl rfl HC.out (by intro u hu; simp at hu; subst hu; rfl) (by omega) ?_; intro w2 hown2 hgr2; have hbk : Hid (w2.heap[b]? = w1.heap[b]?) := (hgr2.block b (by simp; omega) (fun e => h4 (Option.some.inj e).symm)).trans (Below.heap_alloc _ _ b hlt); have d1 := (HB.out.1.same hbk.out).c1; have d2 := (HB.out.1.same hbk.out).fz 1; have HG2 : Hid ((w1.alloc (.cells #[.int .u8 z] 5)).grownBy w2 (some g) ∧ w2.ownsRow B 5 1 (.slice (some ⟨g, 0, none⟩) (bs.length + 1) c) (bs.length + 1) (bs ++ [.int .u8 z])) := ⟨hgr2, hown2⟩; clear hown2 hgr2)
  go_ret
  have hBg : B ≤ g := (HB.out.2.lt g rfl).1
  have hgs : g < w2.heap.size := (HG2.out.2.lt g rfl).2
  have hb2 := HB.out.1.same hbk.out
  have hbel : Below B w1 w2 := ((Below.refl B w1).alloc (by omega) _).grown HG2.out.1 (by simp; omega) (fun k e => by have := Option.some.inj e; omega)
  refine ⟨rfl, .inr ⟨g, c, ?_, ?_, h3, h4, by simpa [World.setCell] using hgs, h6⟩, hbel.setCell hB _⟩
  · have := heap_set hb2 1 (.slice (some ⟨g, 0, none⟩) (bs.length + 1) c)
    simpa [BB] using this
  · have := HG2.out.2.kept (w' := w2.setCell ⟨b, 1, none⟩ (.slice (some ⟨g, 0, none⟩) (bs.length + 1) c)) (row := some b) ⟨rfl, rfl, rfl, by simp [World.setCell], fun k _ hk => Below.heap_setCell _ _ _ _ (fun e => hk (by simp [e]))⟩ (.inr (fun e => h4 (Option.some.inj e)))
    simpa using this
theorem freeze_other (w : World) (g n b : Nat) (h : g ≠ b) : (w.freeze ⟨g, 0, none⟩ n).heap[b]? = w.heap[b]? := by
  unfold World.freeze
  split
  · rfl
  · simp [Array.getElem?_modify, h]
set_option maxRecDepth 100000 in
set_option maxHeartbeats 1000000 in
theorem bstring (B b N : Nat) (l : List UInt8) (w : World) (h : BSt B w b N (Lib.byteCells l)) (hN : l.length = N) (hl : l.length ≤ 9223372036854775807) :
    Calls Tryz.prog 49 #[.pointer (some ⟨b, 0, none⟩)] w fun e w' => e = .returned (.string ⟨l.toArray⟩) ∧ Hid (Below B w w') := by
  rcases h with ⟨h0, h1, h2⟩ | ⟨g, c, h1, h2, h3, h4, h5, h6⟩
  · have hl0 : l = [] := List.eq_nil_of_length_eq_zero (by omega)
    subst hl0
    have c1 := h2.c1
    have hlt := h2.lt
    have s1 : ∀ (W : World) (ts : Array TypeId) (ty : TypeId), (Builtin.unsafeSliceData_ ts ty #[.slice none 0 0]).run Tryz.prog W = .ok (.pointer none) W := fun W ts ty => Lib.run_unsafeSliceData_nil W ts ty 0 0
    have s2 : ∀ (W : World) (ty : TypeId), (Builtin.unsafeString_ #[120, 3] ty #[.pointer none, .int .i64 0]).run Tryz.prog W = .ok (.string .empty) W := fun W ty => Lib.run_unsafeString_none W 120 3 ty none
    clear h1 h2
    go_enter Tryz.func49, Tryz.ntmps49
    go_wp2_with fail
    go_region_held3 (fun W => W.cell? ⟨b, 1, none⟩ = some (.slice none 0 0)) (go_keep) (fail)
    go_wp2
    go_ret
    exact ⟨rfl, (Below.refl _ _).drew⟩
  · rw [Lib.byteCells_length] at h1 h2
    have c1 := h1.c1
    have hlt := h1.lt
    have s1 : ∀ (W : World) (ts : Array TypeId) (ty : TypeId), (Builtin.unsafeSliceData_ ts ty #[.slice (some ⟨g, 0, none⟩) l.length c]).run Tryz.prog W = .ok (.pointer (some ⟨g, 0, none⟩)) W := fun W ts ty => Lib.run_unsafeSliceData_row W ts ty _ _ _ (by omega)
    by_cases h0 : l = []
    · subst h0
      have s2 : ∀ (W : World) (ty : TypeId), (Builtin.unsafeString_ #[120, 3] ty #[.pointer (some ⟨g, 0, none⟩), .int .i64 0]).run Tryz.prog W = .ok (.string .empty) W := fun W ty => Lib.run_unsafeString_none W 120 3 ty _
      clear h1 h2 hN
      simp only [List.length_nil] at c1 s1
      go_enter Tryz.func49, Tryz.ntmps49
      go_wp2_with fail
      go_region_held3 (fun W => W.cell? ⟨b, 1, none⟩ = some (.slice (some ⟨g, 0, none⟩) 0 c)) (go_keep) (fail)
      go_wp2
      go_ret
      exact ⟨rfl, (Below.refl _ _).drew⟩
    · have hBg := (h2.lt g rfl).1
      have s2 : ∀ ty : TypeId, (Builtin.unsafeString_ #[120, 3] ty #[.pointer (some ⟨g, 0, none⟩), .int .i64 l.length]).run Tryz.prog w.drew = .ok (.string ⟨l.toArray⟩) (w.drew.freeze ⟨g, 0, none⟩ l.length) := by
        intro ty
        have hsh : w.drew.shape? g = some (5, c) := by
          rcases h2.2 with ⟨e, _⟩ | ⟨g', cap, cur, e, _, hg, _, _, hs, _⟩
          · cases e
          · have e1 : g = g' := by injection e with e1 _ _; injection e1 with e1; injection e1
            have e2 : c = cap := by injection e
            subst e1; subst e2
            have hg' : w.drew.heap[g]? = some (.cells cur 5 (0, 0)) := hg
            simp [World.shape?, hg', hs]
        exact Lib.run_unsafeString_row w.drew 120 3 ty 5 Tryz.underlying120 (by kernel_rfl) g c hsh l h0 (by omega) hl (fun j x hx => by
          have := h2.cells (g := g) rfl j (.int .u8 x.toNat) (by simp [Lib.byteCells, hx])
          exact this)
      have HF : Hid (Below B w (w.drew.freeze ⟨g, 0, none⟩ l.length)) := Lib.below_freeze (Below.refl _ _).drew hBg _
      have hfc : (w.drew.freeze ⟨g, 0, none⟩ l.length).cell? ⟨b, 1, none⟩ = some (.slice (some ⟨g, 0, none⟩) l.length c) := (World.cell?_of_block (w := w) (a := ⟨b, 1, none⟩) (freeze_other w.drew g l.length b h4)).trans c1
      clear h1 h2 hN
      generalize hll : l.length = ll at *
      clear hll
      go_enter Tryz.func49, Tryz.ntmps49
      go_wp2_with fail
      go_region_held3 (fun W => W.cell? ⟨b, 1, none⟩ = some (.slice (some ⟨g, 0, none⟩) ll c)) (go_keep) (fail)
      go_wp2
      go_ret
      exact ⟨rfl, HF.out⟩
end Go.Proofs.YtfkfjodfjgjbkaaGreatDoor
/- What a Builder does that was given no room ahead. -/
namespace Go.Proofs.YtfkfjodfjgjbkaaGreatDoor
open Go.ChangeShapes Go.WideShapes Go.ChangeAt Go.RowKit
set_option linter.unusedVariables false
set_option linter.unusedSimpArgs false


/-- A Builder that knows itself, and holds bs. -/
def GU (B : Nat) (w : World) (b : Nat) (bs : List Value) : Prop :=
  ∃ v, BB w b (.pointer (some ⟨b, 0, none⟩)) v ∧ w.ownsRow B 5 1 v bs.length bs ∧ v.ownBlock ≠ some b
/-- A Builder that holds bs. -/
def GS (B : Nat) (w : World) (b : Nat) (bs : List Value) : Prop :=
  (BB w b (.pointer none) (.slice none 0 0) ∧ bs = []) ∨ (GU B w b bs ∧ bs ≠ [])
theorem GS.fresh (w : World) : GS w.heap.size (w.alloc (.cells #[.pointer none, .slice none 0 0] 81)) w.heap.size [] :=
  .inl ⟨heap_alloc_new _ _, rfl⟩
theorem row_shape {B : Nat} {w : World} {e z : Nat} {v : Value} {n : Nat} {bs : List Value} (h : w.ownsRow B e z v n bs) : ∃ ao c, v = .slice ao n c := by
  rcases h.2 with ⟨rfl, rfl⟩ | ⟨g, cap, cur, rfl, _⟩
  · exact ⟨none, 0, rfl⟩
  · exact ⟨_, _, rfl⟩
theorem row_set {B : Nat} {w : World} {b : Nat} {v : Value} {n : Nat} {bs : List Value} (h : w.ownsRow B 5 1 v n bs) (hne : v.ownBlock ≠ some b) (i : Nat) (x : Value) : (w.setCell ⟨b, i, none⟩ x).ownsRow B 5 1 v n bs :=
  h.kept (row := some b) ⟨rfl, rfl, rfl, by simp [World.setCell], fun k _ hk => Below.heap_setCell _ _ _ _ (fun e => hk (by simp [e]))⟩ (.inr hne)
theorem bcheck_any (B b : Nat) (bs : List Value) (w : World) (h : GS B w b bs) (hB : B ≤ b) :
    Calls Tryz.prog 84 #[.pointer (some ⟨b, 0, none⟩)] w fun e w' => e = .returned (.tuple #[]) ∧ Hid (GU B w' b bs ∧ Below B w w') := by
  rcases h with ⟨h1, rfl⟩ | ⟨⟨v, h1, h3, h4⟩, _⟩
  · refine (check_fresh b _ w h1).mono ?_
    rintro e w' ⟨rfl, rfl⟩
    refine ⟨rfl, ⟨.slice none 0 0, ?_, World.ownsRow_nil _ _ _ _, by simp [Value.ownBlock]⟩, (Below.refl _ _).setCell hB _⟩
    have := heap_set h1 0 (.pointer (some ⟨b, 0, none⟩))
    simpa [BB] using this
  · refine (check_used b v w h1).mono ?_
    rintro e w' ⟨rfl, rfl⟩
    exact ⟨rfl, ⟨v, h1, h3, h4⟩, Below.refl _ _⟩
set_option maxRecDepth 100000 in
set_option maxHeartbeats 1000000 in
theorem wbyte (B b : Nat) (bs : List Value) (z : Int) (w : World) (h : GS B w b bs) (hB : B ≤ b) (hl : bs.length + 1 ≤ 140737488355328) :
    Calls Tryz.prog 48 #[.pointer (some ⟨b, 0, none⟩), .int .u8 z] w fun e w' => e = .returned .nilIface ∧ Hid (GS B w' b (bs ++ [.int .u8 z]) ∧ Below B w w') := by
  have HG : Hid (GS B w b bs) := h
  clear h
  go_enter Tryz.func48, Tryz.ntmps48
  go_wp2_with fail
  refine (bcheck_any B b bs _ HG.out hB).mono ?_
  rintro e w1 ⟨rfl, H1⟩
  obtain ⟨v, h1, h2, h4⟩ := H1.out.1
  have HB1 : Hid (Below B w w1) := H1.out.2
  have HB : Hid (BB w1 b (.pointer (some ⟨b, 0, none⟩)) v ∧ w1.ownsRow B 5 1 v bs.length bs) := ⟨h1, h2⟩
  have c1 := h1.c1
  have hlt := h1.lt
  clear h1 h2 H1 HG
  obtain ⟨i5, hi, hz0, hz1, hz2⟩ := info_parts Tryz.info5
  have HI : Hid (Tryz.prog.info? 5 = some i5 ∧ i5.zero = some (.int .u8 0) ∧ i5.size = 1 ∧ i5.bytes = 1) := ⟨hi, hz0, hz1, hz2⟩
  clear hi hz0 hz1 hz2
  have HO : Hid ((w1.alloc (.cells #[.int .u8 z] 5)).ownsRow B 5 1 v bs.length bs) := HB.out.2.alloc _
  have HC : Hid (∀ j u, ([.int .u8 z] : List Value)[j]? = some u → (w1.alloc (.cells #[.int .u8 z] 5)).cell? ((⟨w1.heap.size, 0, none⟩ : Addr).add j) = some u) := by
    intro j u hu
    have hj : j = 0 := by have := (List.getElem?_eq_some_iff.1 hu).1; simp at this; omega
    subst hj
    simp at hu
    subst hu
    simp [go_sem, Addr.add]
  go_wp2_with (at_builtin; refine wpList_append_own _ rfl _ _ 27 rfl B 5 i5 (.int .u8 0) 1 1 Tryz.underlying27 HI.out.1 HI.out.2.1 HI.out.2.2.1 HI.out.2.2.2 rfl (by decide) v bs.length bs rfl HO.out ⟨w1.heap.size, 0, none⟩ 1 1 [.int .u8 z] rfl rfl HC.out (by intro u hu; simp at hu; subst hu; rfl) (by simp only [maxLen]; omega) (by omega) (by simp; omega) ?_; intro v' w2 hown2 hgr2 hnil; obtain ⟨ao, cc, rfl⟩ := row_shape hown2; have hbk : Hid (w2.heap[b]? = w1.heap[b]?) := (hgr2.block b (by simp; omega) (fun e => h4 e.symm)).trans (Below.heap_alloc _ _ b hlt); have d1 := (HB.out.1.same hbk.out).c1; have d2 := (HB.out.1.same hbk.out).fz 1; have HG2 : Hid ((w1.alloc (.cells #[.int .u8 z] 5)).grownBy w2 v.ownBlock ∧ w2.ownsRow B 5 1 (.slice ao (bs.length + 1) cc) (bs.length + 1) (bs ++ [.int .u8 z])) := ⟨hgr2, hown2⟩; clear hown2 hgr2 hnil)
  go_ret
  have hb2 := HB.out.1.same hbk.out
  have hrow : ∀ g, v.ownBlock = some g → B ≤ g := fun g hg => (HB.out.2.lt g hg).1
  have hbel : Below B w1 w2 := ((Below.refl B w1).alloc (by omega) _).grown HG2.out.1 (by simp; omega) hrow
  have hne : (Value.slice ao (bs.length + 1) cc).ownBlock ≠ some b := by
    intro e
    obtain ⟨_, hc | ⟨g, cap, cur, hv, _, hg, _⟩⟩ := HG2.out.2
    · rw [hc.1] at e; simp [Value.ownBlock] at e
    · rw [hv] at e
      have e2 : g = b := by simpa [Value.ownBlock] using e
      rw [e2] at hg
      have hb3 : w2.heap[b]? = _ := hb2
      rw [hb3] at hg
      injection hg with hg
      injection hg with _ hg _
      exact absurd hg (by decide)
  refine ⟨rfl, .inr ⟨⟨.slice ao (bs.length + 1) cc, ?_, ?_, hne⟩, by simp⟩, HB1.out.trans (hbel.setCell hB _)⟩
  · have := heap_set hb2 1 (.slice ao (bs.length + 1) cc)
    simpa [BB] using this
  · have := row_set HG2.out.2 hne 1 (.slice ao (bs.length + 1) cc)
    simpa using this
set_option maxRecDepth 100000 in
set_option maxHeartbeats 1000000 in
theorem wstring (B b : Nat) (l : List UInt8) (w : World) (h : GS B w b (Lib.byteCells l)) (hl : l.length ≤ 9223372036854775807) :
    Calls Tryz.prog 49 #[.pointer (some ⟨b, 0, none⟩)] w fun e w' => e = .returned (.string ⟨l.toArray⟩) ∧ Hid (Below B w w') := by
  rcases h with ⟨h1, h0⟩ | ⟨⟨v, h1, h2, h4⟩, hne⟩
  · have hl0 : l = [] := by
      have := congrArg List.length h0
      rw [Lib.byteCells_length] at this
      exact List.eq_nil_of_length_eq_zero this
    subst hl0
    have c1 := h1.c1
    have s1 : ∀ (W : World) (ts : Array TypeId) (ty : TypeId), (Builtin.unsafeSliceData_ ts ty #[.slice none 0 0]).run Tryz.prog W = .ok (.pointer none) W := fun W ts ty => Lib.run_unsafeSliceData_nil W ts ty 0 0
    have s2 : ∀ (W : World) (ty : TypeId), (Builtin.unsafeString_ #[120, 3] ty #[.pointer none, .int .i64 0]).run Tryz.prog W = .ok (.string .empty) W := fun W ty => Lib.run_unsafeString_none W 120 3 ty none
    clear h1 h0
    go_enter Tryz.func49, Tryz.ntmps49
    go_wp2_with fail
    go_region_held3 (fun W => W.cell? ⟨b, 1, none⟩ = some (.slice none 0 0)) (go_keep) (fail)
    go_wp2
    go_ret
    exact ⟨rfl, (Below.refl _ _).drew⟩
  · refine bstring B b l.length l w (.inr ?_) rfl hl
    have hlen := Lib.byteCells_length l
    have hpos : 0 < (Lib.byteCells l).length := List.length_pos_iff.2 hne
    rcases h2.2 with ⟨_, h0⟩ | ⟨g, cap, cur, rfl, hBg, hg, hn, hm, hs, hx⟩
    · omega
    · exact ⟨g, cap, h1, h2, by omega, fun e => h4 (by rw [e]; rfl), (h2.lt g rfl).2, by omega⟩
end Go.Proofs.YtfkfjodfjgjbkaaGreatDoor
/- A label's text, as the program writes it. -/
namespace Go.Proofs.YtfkfjodfjgjbkaaGreatDoor
open Go.ChangeShapes Go.WideShapes Go.ChangeAt Go.RowKit
set_option linter.unusedVariables false
set_option linter.unusedSimpArgs false


/-- Bytes that a backslash stands ahead of. -/
def spc (c : Int) : Bool := c == 46 || c == 92 || c == 34 || c == 59 || c == 40 || c == 41 || c == 64 || c == 36
def wst (c : Int) : Int := if c < 33 ∨ 126 < c then 2 else if spc c then 1 else 0
/-- How a byte is written. -/
def tx1 (c : Int) : List Int := if c < 33 ∨ 126 < c then [92, 48 + c / 100, 48 + c / 10 % 10, 48 + c % 10] else if spc c then [92, c] else [c]
def tx (l : List Int) : List Int := l.flatMap tx1
theorem tx_snoc (l : List Int) (c : Int) : tx (l ++ [c]) = tx l ++ tx1 c := by simp [tx]
theorem tx1_len (c : Int) : (tx1 c).length ≤ 4 ∧ 1 ≤ (tx1 c).length := by unfold tx1; split <;> (try split) <;> simp
theorem tx_len (l : List Int) : (tx l).length ≤ 4 * l.length := by
  induction l with
  | nil => simp [tx]
  | cons c l ih =>
    have := tx1_len c
    simp only [tx, List.flatMap_cons, List.length_append, List.length_cons] at ih ⊢
    omega
theorem tx1_bd (c : Int) (h : 0 ≤ c ∧ c ≤ 255) : ∀ z ∈ tx1 c, 0 ≤ z ∧ z ≤ 255 := by
  intro z hz
  unfold tx1 at hz
  split at hz
  · simp only [List.mem_cons, List.mem_nil_iff, or_false] at hz
    omega
  · split at hz
    · simp only [List.mem_cons, List.mem_nil_iff, or_false] at hz
      omega
    · simp only [List.mem_cons, List.mem_nil_iff, or_false] at hz
      omega
theorem tx_bd (l : List Int) (h : ∀ z ∈ l, 0 ≤ z ∧ z ≤ 255) : ∀ z ∈ tx l, 0 ≤ z ∧ z ≤ 255 := by
  intro z hz
  simp only [tx, List.mem_flatMap] at hz
  obtain ⟨c, hc, hz⟩ := hz
  exact tx1_bd c (h c hc) z hz
theorem spc_cases (c : Int) : (c = 46 ∨ c = 92 ∨ c = 34 ∨ c = 59 ∨ c = 40 ∨ c = 41 ∨ c = 64 ∨ c = 36) ∨ (spc c = false ∧ (c == 46) = false ∧ (c == 92) = false ∧ (c == 34) = false ∧ (c == 59) = false ∧ (c == 40) = false ∧ (c == 41) = false ∧ (c == 64) = false ∧ (c == 36) = false ∧ (c < 40 ∨ 41 < c)) := by
  by_cases h : c = 46 ∨ c = 92 ∨ c = 34 ∨ c = 59 ∨ c = 40 ∨ c = 41 ∨ c = 64 ∨ c = 36
  · exact .inl h
  · right
    have e1 : ¬ c = 46 := by omega
    have e2 : ¬ c = 92 := by omega
    have e3 : ¬ c = 34 := by omega
    have e4 : ¬ c = 59 := by omega
    have e5 : ¬ c = 40 := by omega
    have e6 : ¬ c = 41 := by omega
    have e7 : ¬ c = 64 := by omega
    have e8 : ¬ c = 36 := by omega
    simp [spc, e1, e2, e3, e4, e5, e6, e7, e8]
    omega
set_option maxRecDepth 100000 in
set_option maxHeartbeats 2000000 in
theorem written_any (c : Int) (w : World) (h : 0 ≤ c ∧ c ≤ 255) : Calls Tryz.prog 145 #[.int .u8 c] w fun e w' => e = .returned (.int .i64 (wst c)) ∧ w' = w := by
  by_cases hu : c < 33 ∨ 126 < c
  · have HW : Hid (wst c = 2) := by show _ = _; unfold wst; rw [if_pos hu]
    rcases hu with hu | hu
    all_goals
      go_enter Tryz.func145, Tryz.ntmps145
      go_wp2
      go_ret
      exact ⟨by rw [HW.out]; rfl, rfl⟩
  · have h1 : ¬ c < 33 := by omega
    have h2 : ¬ 126 < c := by omega
    have hs := spc_cases c
    have HW : Hid (wst c = if spc c then 1 else 0) := by show _ = _; unfold wst; rw [if_neg hu]
    clear hu
    rcases hs with hs | ⟨hs, e1, e2, e3, e4, e5, e6, e7, e8, hor⟩
    · rcases hs with rfl | rfl | rfl | rfl | rfl | rfl | rfl | rfl
      all_goals
        clear HW
        go_enter Tryz.func145, Tryz.ntmps145
        go_wp2
        go_ret
        exact ⟨rfl, rfl⟩
    · rw [hs] at HW
      clear hs e5 e6
      rcases hor with ho | ho
      all_goals
        go_enter Tryz.func145, Tryz.ntmps145
        go_wp2
        go_ret
        exact ⟨by rw [HW.out]; rfl, rfl⟩
set_option maxRecDepth 100000 in
set_option maxHeartbeats 2000000 in
theorem special_any (c : Int) (w : World) : Calls Tryz.prog 108 #[.int .u8 c] w fun e w' => e = .returned (.bool (spc c)) ∧ w' = w := by
  have hs := spc_cases c
  rcases hs with hs | ⟨hs, e1, e2, e3, e4, e5, e6, e7, e8, hor⟩
  · rcases hs with rfl | rfl | rfl | rfl | rfl | rfl | rfl | rfl
    all_goals
      go_enter Tryz.func108, Tryz.ntmps108
      go_wp2
      go_ret
      exact ⟨rfl, rfl⟩
  · have HW : Hid (spc c = false) := hs
    clear hs hor
    go_enter Tryz.func108, Tryz.ntmps108
    go_wp2
    go_ret
    exact ⟨by rw [HW.out]; rfl, rfl⟩
theorem bc_txt (l : List Int) (h : ∀ z ∈ l, 0 ≤ z ∧ z ≤ 255) : Lib.byteCells (txt l) = l.map (Value.int .u8) := by
  unfold Lib.byteCells txt
  rw [List.map_map]
  apply List.map_congr_left
  intro z hz
  have := h z hz
  simp
  omega
theorem nums_all' (s : ByteArray) : ∀ z ∈ nums s, 0 ≤ z ∧ z ≤ 255 := by
  intro z hz
  simp only [nums, List.mem_map] at hz
  obtain ⟨b, _, rfl⟩ := hz
  have := b.toNat_lt
  omega
set_option maxRecDepth 100000 in
set_option maxHeartbeats 2000000 in
theorem text_any (s : ByteArray) (w : World) (hs : s.size ≤ 35184372088000) :
    Calls Tryz.prog 128 #[.string s] w fun e w' => e = .returned (.string ⟨(txt (tx (nums s))).toArray⟩) ∧ Hid (Below w.heap.size w w') := by
  have H0 : Hid (GS w.heap.size (w.alloc (.cells #[.pointer none, .slice none 0 0] 81)) w.heap.size [] ∧ Below w.heap.size w (w.alloc (.cells #[.pointer none, .slice none 0 0] 81))) := ⟨GS.fresh w, (Below.refl _ _).alloc (Nat.le_refl _) _⟩
  go_enter Tryz.func128, Tryz.ntmps128
  go_wp2_with fail
  go_loopw [8] (fun x wr => ∃ k : Nat, k ≤ s.size ∧ x = .int .i64 k ∧ Hid (GS w.heap.size wr w.heap.size ((tx ((nums s).take k)).map (Value.int .u8)) ∧ Below w.heap.size w wr)) (fun x _ => s.size - (intOf x).toNat)
  case atStart => exact ⟨0, Nat.zero_le _, rfl, H0⟩
  case round =>
    obtain ⟨k, hk, rfl, HW⟩ := hrel
    clear H0
    by_cases hlt : k < s.size
    · have hlt' : (k : Int) < (s.size : Int) := by omega
      have hbd := nums_bd s k
      have HT : Hid ((nums s).take (k + 1) = (nums s).take k ++ [(nums s).getD k 0]) := take_snoc _ _ (by rw [nums_len]; exact hlt)
      rw [nums_at s k hlt] at hbd HT
      have hln : (tx ((nums s).take k)).length ≤ 4 * k := by
        have h1 := tx_len ((nums s).take k)
        have h2 : ((nums s).take k).length ≤ k := by simp; omega
        omega
      have HN : Hid (tx ((nums s).take (k + 1)) = tx ((nums s).take k) ++ tx1 (s[k].toNat : Int)) := by show _ = _; rw [HT.out, tx_snoc]
      have HM : Hid (((tx ((nums s).take k)).map (Value.int .u8)).length = (tx ((nums s).take k)).length) := (show _ = _ by simp)
      have HWR : Hid (∀ W, Calls Tryz.prog 145 #[.int .u8 (s[k].toNat : Int)] W fun e w' => e = .returned (.int .i64 (wst (s[k].toNat : Int))) ∧ w' = W) := fun W => written_any _ W hbd
      by_cases hu : (s[k].toNat : Int) < 33 ∨ 126 < (s[k].toNat : Int)
      · have hw : wst (s[k].toNat : Int) = 2 := by unfold wst; rw [if_pos hu]
        have HX : Hid (tx1 (s[k].toNat : Int) = [92, 48 + (s[k].toNat : Int) / 100, 48 + (s[k].toNat : Int) / 10 % 10, 48 + (s[k].toNat : Int) % 10]) := by show _ = _; unfold tx1; rw [if_pos hu]
        rw [hw] at HWR
        clear hu hw
        go_wp2_with fail
        refine (HWR.out _).mono ?_
        rintro e w1 ⟨rfl, rfl⟩
        go_wp2_with fail
        refine (wbyte w.heap.size w.heap.size _ 92 _ HW.out.1 (Nat.le_refl _) (by rw [HM.out]; omega)).mono ?_
        rintro e w2 ⟨rfl, H2⟩
        go_wp2_with fail
        refine (wbyte w.heap.size w.heap.size _ _ _ H2.out.1 (Nat.le_refl _) (by simp only [List.length_append, List.length_singleton, HM.out]; omega)).mono ?_
        rintro e w3 ⟨rfl, H3⟩
        go_wp2_with fail
        refine (wbyte w.heap.size w.heap.size _ _ _ H3.out.1 (Nat.le_refl _) (by simp only [List.length_append, List.length_singleton, HM.out]; omega)).mono ?_
        rintro e w4 ⟨rfl, H4⟩
        go_wp2_with fail
        refine (wbyte w.heap.size w.heap.size _ _ _ H4.out.1 (Nat.le_refl _) (by simp only [List.length_append, List.length_singleton, HM.out]; omega)).mono ?_
        rintro e w5 ⟨rfl, H5⟩
        go_wp2
        refine ⟨⟨k + 1, by omega, by go_num, ?_, ((HW.out.2.trans H2.out.2).trans H3.out.2).trans (H4.out.2.trans H5.out.2)⟩, by simp [intOf]; omega⟩
        rw [HN.out, HX.out, List.map_append]
        simpa only [List.map_cons, List.map_nil, List.append_assoc, List.cons_append, List.nil_append] using H5.out.1
      · by_cases hp : spc (s[k].toNat : Int) = true
        · have hw : wst (s[k].toNat : Int) = 1 := by unfold wst; rw [if_neg hu, if_pos hp]
          have HX : Hid (tx1 (s[k].toNat : Int) = [92, (s[k].toNat : Int)]) := by show _ = _; unfold tx1; rw [if_neg hu, if_pos hp]
          rw [hw] at HWR
          clear hu hw hp
          go_wp2_with fail
          refine (HWR.out _).mono ?_
          rintro e w1 ⟨rfl, rfl⟩
          go_wp2_with fail
          refine (wbyte w.heap.size w.heap.size _ 92 _ HW.out.1 (Nat.le_refl _) (by rw [HM.out]; omega)).mono ?_
          rintro e w2 ⟨rfl, H2⟩
          go_wp2_with fail
          refine (wbyte w.heap.size w.heap.size _ _ _ H2.out.1 (Nat.le_refl _) (by simp only [List.length_append, List.length_singleton, HM.out]; omega)).mono ?_
          rintro e w3 ⟨rfl, H3⟩
          go_wp2
          refine ⟨⟨k + 1, by omega, by go_num, ?_, (HW.out.2.trans H2.out.2).trans H3.out.2⟩, by simp [intOf]; omega⟩
          rw [HN.out, HX.out, List.map_append]
          simpa only [List.map_cons, List.map_nil, List.append_assoc, List.cons_append, List.nil_append] using H3.out.1
        · have hp' : spc (s[k].toNat : Int) = false := by simpa using hp
          have hw : wst (s[k].toNat : Int) = 0 := by unfold wst; rw [if_neg hu, hp']; rfl
          have HX : Hid (tx1 (s[k].toNat : Int) = [(s[k].toNat : Int)]) := by show _ = _; unfold tx1; rw [if_neg hu, hp']; rfl
          rw [hw] at HWR
          clear hu hw hp hp'
          go_wp2_with fail
          refine (HWR.out _).mono ?_
          rintro e w1 ⟨rfl, rfl⟩
          go_wp2_with fail
          refine (wbyte w.heap.size w.heap.size _ _ _ HW.out.1 (Nat.le_refl _) (by rw [HM.out]; omega)).mono ?_
          rintro e w2 ⟨rfl, H2⟩
          go_wp2
          refine ⟨⟨k + 1, by omega, by go_num, ?_, HW.out.2.trans H2.out.2⟩, by simp [intOf]; omega⟩
          rw [HN.out, HX.out, List.map_append]
          simpa only [List.map_cons, List.map_nil, List.append_assoc, List.cons_append, List.nil_append] using H2.out.1
    · have hge : (s.size : Int) ≤ (k : Int) := by omega
      have ek : (nums s).take k = nums s := List.take_of_length_le (by rw [nums_len]; omega)
      have hg := HW.out.1
      rw [ek, ← bc_txt _ (tx_bd _ (nums_all' s))] at hg
      have hl : (txt (tx (nums s))).length ≤ 9223372036854775807 := by
        have := tx_len (nums s)
        rw [nums_len] at this
        rw [txt_len]; omega
      have HG : Hid (GS w.heap.size wr w.heap.size (Lib.byteCells (txt (tx (nums s))))) := hg
      clear hg ek
      generalize hLL : txt (tx (nums s)) = L at *
      have HLL : Hid (txt (tx (nums s)) = L) := hLL
      clear hLL
      go_wp2_with fail
      refine (wstring w.heap.size w.heap.size L _ HG.out hl).mono ?_
      rintro e w2 ⟨rfl, H2⟩
      go_wp2
      go_ret
      exact ⟨by rw [HLL.out]; rfl, HW.out.2.trans H2.out⟩
end Go.Proofs.YtfkfjodfjgjbkaaGreatDoor
/- Folded texts, as the program and as the document make them; how two texts are compared. -/
namespace Go.Proofs.YtfkfjodfjgjbkaaGreatDoor
open Go.ChangeShapes Go.WideShapes Go.ChangeAt Go.RowKit
set_option linter.unusedVariables false
set_option linter.unusedSimpArgs false


def fz (z : Int) : Int := if 65 ≤ z ∧ z ≤ 90 then z + 32 else z
theorem fz_bd (z : Int) (h : 0 ≤ z ∧ z ≤ 255) : 0 ≤ fz z ∧ fz z ≤ 255 := by unfold fz; split <;> omega
/-- A block that came out of a text. -/
def Blk2 (w : World) (g : Nat) (zs : List Int) : Prop :=
  w.heap[g]? = some (.cells (zs.map (Value.int .u8)).toArray 5 (zs.length, zs.length + 1)) ∧ ∀ z ∈ zs, 0 ≤ z ∧ z ≤ 255
theorem Blk2.lt {w : World} {g : Nat} {zs : List Int} (h : Blk2 w g zs) : g < w.heap.size := (Array.getElem?_eq_some_iff.1 h.1).1
theorem Blk2.cell {w : World} {g : Nat} {zs : List Int} (h : Blk2 w g zs) (i : Nat) (hi : i < zs.length) : w.cell? ⟨g, i, none⟩ = some (.int .u8 (zs.getD i 0)) := by
  simp [World.cell?, h.1, hi]
theorem Blk2.frozen {w : World} {g : Nat} {zs : List Int} (h : Blk2 w g zs) (i : Nat) (hi : i < zs.length) : w.frozen? ⟨g, i, none⟩ = false := by
  simp [World.frozen?, h.1]; omega
theorem Blk2.rd {w : World} {g : Nat} {zs : List Int} (h : Blk2 w g zs) (n : Nat) : Rd w (some ⟨g, 0, none⟩) (zs.take n) := by
  refine ⟨.inr ⟨g, 0, rfl, h.lt, fun i hi => ?_⟩, fun z hz => h.2 z (List.mem_of_mem_take hz)⟩
  rw [Nat.zero_add, h.cell i (by simp at hi; omega)]
  have : i < n := by simp at hi; omega
  simp [List.getD_eq_getElem?_getD, this]
theorem Blk2.stored {w : World} {g : Nat} {zs : List Int} (h : Blk2 w g zs) (i : Nat) (z : Int) (hz : 0 ≤ z ∧ z ≤ 255) : Blk2 (w.setCell ⟨g, i, none⟩ (.int .u8 z)) g (zs.set i z) := by
  refine ⟨?_, fun x hx => ?_⟩
  · have hg := h.lt
    have h1 := h.1
    have e : w.heap[g] = .cells (zs.map (Value.int .u8)).toArray 5 (zs.length, zs.length + 1) := by
      rw [Array.getElem?_eq_getElem hg] at h1; exact Option.some.inj h1
    simp [World.setCell, hg, Array.getElem_modify, e, List.map_set]
  · rcases List.mem_or_eq_of_mem_set hx with hx | hx
    · exact h.2 x hx
    · subst hx; exact hz
theorem bytesRow_nums (s : ByteArray) (c : Nat) : bytesRow s c = ((nums s ++ List.replicate (c - s.size) 0).map (Value.int .u8)).toArray := by
  apply Array.ext'
  simp [bytesRow, nums]
theorem nums_bds (s : ByteArray) : ∀ z ∈ nums s, 0 ≤ z ∧ z ≤ 255 := by
  intro z hz
  simp only [nums, List.mem_map] at hz
  obtain ⟨b, _, rfl⟩ := hz
  have := b.toNat_lt
  omega
theorem conv_new (s : ByteArray) (w : World) : ∃ zs : List Int, (convert 9 27 (.string s)).run Tryz.prog w = .ok (.slice (some ⟨w.heap.size, 0, none⟩) s.size zs.length) (w.drew.alloc (.cells (zs.map (Value.int .u8)).toArray 5 (zs.length, zs.length + 1))) ∧
    Blk2 (w.drew.alloc (.cells (zs.map (Value.int .u8)).toArray 5 (zs.length, zs.length + 1))) w.heap.size zs ∧ zs.take s.size = nums s ∧ s.size ≤ zs.length := by
  have h := run_bytes_of_string (P := Tryz.prog) w 9 27 5 s Tryz.underlying9 Tryz.underlying27 Tryz.underlying5
  have hge := grownCap_ge w s.size 0 5
  have hl : (nums s ++ List.replicate (grownCap w s.size 0 5 - s.size) 0).length = grownCap w s.size 0 5 := by
    rw [List.length_append, nums_len, List.length_replicate]; omega
  refine ⟨nums s ++ List.replicate (grownCap w s.size 0 5 - s.size) 0, ?_, ⟨heap_alloc_new w.drew _, ?_⟩, ?_, by rw [hl]; exact hge⟩
  · rw [h, bytesRow_nums, hl]
    simp only [List.size_toArray, List.length_map, hl]
  · intro z hz
    simp only [List.mem_append, List.mem_replicate] at hz
    rcases hz with hz | ⟨_, rfl⟩
    · exact nums_bds s z hz
    · omega
  · rw [List.take_append_of_le_length (by rw [nums_len]; exact Nat.le_refl _), List.take_of_length_le (by rw [nums_len]; exact Nat.le_refl _)]
/-- The first k bytes are folded, the others as they were. -/
def FSt (l zs : List Int) (k : Nat) : Prop := l.length ≤ zs.length ∧ ∀ i, i < l.length → zs.getD i 0 = if i < k then fz (l.getD i 0) else l.getD i 0
theorem FSt.done {l zs : List Int} (h : FSt l zs l.length) : zs.take l.length = l.map fz := by
  apply List.ext_getElem
  · simp [h.1]
  · intro i h1 h2
    have hi : i < l.length := by simpa using h2
    have := h.2 i hi
    rw [if_pos hi] at this
    simp [List.getD_eq_getElem?_getD, List.getElem?_eq_getElem hi, List.getElem?_eq_getElem (show i < zs.length by have := h.1; omega)] at this
    simp [this]
theorem FSt.zero {l zs : List Int} (h : zs.take l.length = l) (hl : l.length ≤ zs.length) : FSt l zs 0 := by
  refine ⟨hl, fun i hi => ?_⟩
  rw [if_neg (by omega)]
  conv => rhs; rw [← h]
  simp [List.getD_eq_getElem?_getD, List.getElem?_take, hi]
theorem FSt.same {l zs : List Int} {k : Nat} (h : FSt l zs k) (hf : fz (l.getD k 0) = l.getD k 0) : FSt l zs (k + 1) := by
  refine ⟨h.1, fun i hi => ?_⟩
  rw [h.2 i hi]
  by_cases e : i = k
  · subst e; rw [if_neg (by omega), if_pos (by omega), hf]
  · by_cases e2 : i < k
    · rw [if_pos e2, if_pos (by omega)]
    · rw [if_neg e2, if_neg (by omega)]
theorem FSt.set {l zs : List Int} {k : Nat} (h : FSt l zs k) (hk : k < l.length) : FSt l (zs.set k (fz (l.getD k 0))) (k + 1) := by
  refine ⟨by rw [List.length_set]; exact h.1, fun i hi => ?_⟩
  have hl := h.1
  by_cases e : i = k
  · subst e
    rw [if_pos (by omega)]
    simp [List.getD_eq_getElem?_getD, List.getElem?_set, show i < zs.length by omega]
  · have : (zs.set k (fz (l.getD k 0))).getD i 0 = zs.getD i 0 := by
      simp [List.getD_eq_getElem?_getD, List.getElem?_set, show ¬ k = i by omega]
    rw [this, h.2 i hi]
    by_cases e2 : i < k
    · rw [if_pos e2, if_pos (by omega)]
    · rw [if_neg e2, if_neg (by omega)]
/-- A text of bytes, as numbers: what it was made of. -/
theorem nums_txt (l : List Int) (h : ∀ z ∈ l, 0 ≤ z ∧ z ≤ 255) : nums ⟨(txt l).toArray⟩ = l := by
  unfold nums txt
  simp only [List.map_map]
  conv => rhs; rw [← List.map_id l]
  apply List.map_congr_left
  intro z hz
  have := h z hz
  simp
  omega
theorem txt_nums (s : ByteArray) : (⟨(txt (nums s)).toArray⟩ : ByteArray) = s := by
  have : txt (nums s) = s.data.toList := by
    unfold nums txt
    rw [List.map_map]
    conv => rhs; rw [← List.map_id s.data.toList]
    apply List.map_congr_left
    intro b _
    simp
  rw [this]
/-- The folded bytes. -/
def fl (s : ByteArray) : List Int := (nums s).map fz
theorem fl_len (s : ByteArray) : (fl s).length = s.size := by rw [fl, List.length_map, nums_len]
theorem fl_all (s : ByteArray) : ∀ z ∈ fl s, 0 ≤ z ∧ z ≤ 255 := by
  intro z hz
  simp only [fl, List.mem_map] at hz
  obtain ⟨y, hy, rfl⟩ := hz
  exact fz_bd y (nums_bds s y hy)
/-- How two are ordered. -/
def cmp (a b : ByteArray) : Int := Lib.compareBytes (txt (fl a)) (txt (fl b))
end Go.Proofs.YtfkfjodfjgjbkaaGreatDoor
/- How bytes are ordered, and folded texts. -/
namespace Go.Proofs.YtfkfjodfjgjbkaaGreatDoor
open Go.ChangeShapes Go.WideShapes Go.ChangeAt Go.RowKit
set_option linter.unusedVariables false
set_option linter.unusedSimpArgs false


theorem ba_loop (s : ByteArray) (n : Nat) : ∀ i r, s.size - i = n → ByteArray.toList.loop s i r = r.reverse ++ s.data.toList.drop i := by
  induction n with
  | zero =>
    intro i r h
    unfold ByteArray.toList.loop
    rw [if_neg (by omega), List.drop_eq_nil_of_le (by simp; omega), List.append_nil]
  | succ n ih =>
    intro i r h
    unfold ByteArray.toList.loop
    have hi : i < s.data.toList.length := by simp; omega
    rw [if_pos (by omega), ih (i + 1) _ (by omega), List.reverse_cons, List.append_assoc, List.drop_eq_getElem_cons hi]
    congr 1
    show (s.data[i]! :: s.data.toList.drop (i + 1)) = _
    have h2 : i < s.data.size := by simpa using hi
    rw [getElem!_pos s.data i h2]; rfl
theorem ba_toList (s : ByteArray) : s.toList = s.data.toList := by
  unfold ByteArray.toList
  rw [ba_loop s _ 0 [] rfl]
  simp
theorem ba_inj {a b : ByteArray} (h : a.toList = b.toList) : a = b := by
  rw [ba_toList, ba_toList] at h
  cases a; cases b
  simp at h
  rw [h]
theorem cb_refl : ∀ l : List UInt8, Lib.compareBytes l l = 0
  | [] => rfl
  | x :: l => by unfold Lib.compareBytes; rw [if_neg (UInt8.lt_irrefl x), if_neg (UInt8.lt_irrefl x)]; exact cb_refl l
theorem cb_range : ∀ a b : List UInt8, Lib.compareBytes a b = -1 ∨ Lib.compareBytes a b = 0 ∨ Lib.compareBytes a b = 1
  | [], [] => .inr (.inl rfl)
  | [], _ :: _ => .inl rfl
  | _ :: _, [] => .inr (.inr rfl)
  | x :: a, y :: b => by
    unfold Lib.compareBytes
    split
    · exact .inl rfl
    · split
      · exact .inr (.inr rfl)
      · exact cb_range a b
theorem cb_zero : ∀ a b : List UInt8, Lib.compareBytes a b = 0 → a = b
  | [], [] => fun _ => rfl
  | [], _ :: _ => fun h => by cases h
  | _ :: _, [] => fun h => by cases h
  | x :: a, y :: b => fun h => by
    unfold Lib.compareBytes at h
    split at h
    · cases h
    · split at h
      · cases h
      · rename_i h1 h2
        have e : x = y := UInt8.le_antisymm (UInt8.not_lt.1 h2) (UInt8.not_lt.1 h1)
        rw [e, cb_zero a b h]
theorem cb_neg : ∀ a b : List UInt8, Lib.compareBytes b a = - Lib.compareBytes a b
  | [], [] => rfl
  | [], _ :: _ => rfl
  | _ :: _, [] => rfl
  | x :: a, y :: b => by
    unfold Lib.compareBytes
    by_cases h1 : x < y
    · have h2 : ¬ y < x := UInt8.lt_asymm h1
      rw [if_neg h2, if_pos h1, if_pos h1]; rfl
    · by_cases h2 : y < x
      · rw [if_pos h2, if_neg h1, if_pos h2]
      · rw [if_neg h2, if_neg h1, if_neg h1, if_neg h2]; exact cb_neg a b
theorem cb_trans : ∀ a b c : List UInt8, Lib.compareBytes a b ≤ 0 → Lib.compareBytes b c ≤ 0 → Lib.compareBytes a c ≤ 0
  | [], _, [] => fun _ _ => by decide
  | [], _, _ :: _ => fun _ _ => by unfold Lib.compareBytes; decide
  | _ :: _, [], _ => fun h _ => by unfold Lib.compareBytes at h; exact absurd h (by decide)
  | x :: a, y :: b, [] => fun _ h => by unfold Lib.compareBytes at h; exact absurd h (by decide)
  | x :: a, y :: b, z :: c => fun h1 h2 => by
    unfold Lib.compareBytes at h1 h2 ⊢
    by_cases e1 : x < y
    · by_cases e2 : y < z
      · rw [if_pos (UInt8.lt_trans e1 e2)]; decide
      · rw [if_neg e2] at h2
        by_cases e3 : z < y
        · rw [if_pos e3] at h2; exact absurd h2 (by decide)
        · have : y = z := UInt8.le_antisymm (UInt8.not_lt.1 e3) (UInt8.not_lt.1 e2)
          rw [← this, if_pos e1]; decide
    · rw [if_neg e1] at h1
      by_cases e3 : y < x
      · rw [if_pos e3] at h1; exact absurd h1 (by decide)
      · have e : x = y := UInt8.le_antisymm (UInt8.not_lt.1 e3) (UInt8.not_lt.1 e1)
        rw [if_neg e3] at h1
        subst e
        by_cases e2 : x < z
        · rw [if_pos e2]; decide
        · rw [if_neg e2] at h2 ⊢
          by_cases e4 : z < x
          · rw [if_pos e4] at h2; exact absurd h2 (by decide)
          · rw [if_neg e4] at h2 ⊢
            exact cb_trans a b c h1 h2
/-- The folded text. -/
def fb (s : ByteArray) : ByteArray := ⟨(txt (fl s)).toArray⟩
theorem fz_fz (z : Int) : fz (fz z) = fz z := by unfold fz; split <;> (try split) <;> omega
theorem fb_size (s : ByteArray) : (fb s).size = s.size := by
  show (txt (fl s)).toArray.size = _
  simp [txt, fl_len]
theorem fl_fb (s : ByteArray) : fl (fb s) = fl s := by
  have h : nums (fb s) = fl s := nums_txt _ (fl_all s)
  rw [show fl (fb s) = (nums (fb s)).map fz from rfl, h]
  conv => lhs; rw [show fl s = (nums s).map fz from rfl]
  rw [List.map_map]
  show (nums s).map (fz ∘ fz) = (nums s).map fz
  congr 1
  funext z
  exact fz_fz z
theorem fb_fb (s : ByteArray) : fb (fb s) = fb s := by rw [show fb (fb s) = ⟨(txt (fl (fb s))).toArray⟩ from rfl, fl_fb]; rfl
theorem fb_eq (a b : ByteArray) : fb a = fb b ↔ cmp a b = 0 := by
  constructor
  · intro h
    have : txt (fl a) = txt (fl b) := by
      have := congrArg (fun s => s.data.toList) h
      simpa [fb] using this
    unfold cmp
    rw [this]; exact cb_refl _
  · intro h
    unfold fb
    rw [cb_zero _ _ h]
end Go.Proofs.YtfkfjodfjgjbkaaGreatDoor
