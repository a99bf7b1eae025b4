/- Texts laid together, in parts: Base Ea Row Tl Tm Own Str Byt Txt Fld Par Nr Nt Nu Dsp Kb Dm Lg Eb Ec Num Ed Hd Ff Oca Ocb Occ Ocd Ra Ga Gd Ge Hj Hk Hm Hn Hq Ia Tk Hw Rk Ee Vp Vc Vd Ve Xc. -/
import Derived.WalkKit
import Derived.ProofKit
import Derived.Below
import Derived.Laws.BitsAllLaws
import Derived.OwnWalk
import Derived.Laws.AppendOwn
import Derived.Laws.CopyOwn
import Derived.Deep.AppendSrc
import Derived.Test.YtgeoadkcmbageaaRows
import Derived.WalkSpells
import Derived.Deep.QuietTactic
import Derived.BigQuiet
import Derived.Deep.RegionHeld3
import Derived.Laws.IdiomStrings
import Derived.Lib.Builder
import Derived.Lib.UnsafeStr
import Derived.Lib.Bytealg
import Derived.OpenShut
import Derived.ShutString
import Derived.ChangeOld
import Derived.JoinedCond
import Derived.Deep.Strs
import Derived.Deep.Slices
import Derived.Lib.SmallJoins
import Derived.Deep.CutBlock
import Derived.Lib.Hide
import Derived.Deep.AppendLies
import Derived.LaidEqlPtr
import Derived.Deep.RegionLaw
import Derived.WalkSmall
import Derived.BigRegion
namespace Go.Proofs.Ytgeoadkcmbageaa
open Go.ChangeShapes Go.WideShapes Go.ChangeAt Go.RowKit
/-- From the address on the numbers lie there, each a byte. -/
def Rd (w : World) (a : Option Addr) (zs : List Int) : Prop :=
  (zs = [] ∨ ∃ b o, a = some ⟨b, o, none⟩ ∧ b < w.heap.size ∧ ∀ i, i < zs.length → w.cell? ⟨b, o + i, none⟩ = some (.int .u8 (zs.getD i 0))) ∧ ∀ z ∈ zs, 0 ≤ z ∧ z ≤ 255
theorem Rd.bd {w : World} {a : Option Addr} {zs : List Int} (h : Rd w a zs) (i : Nat) : 0 ≤ zs.getD i 0 ∧ zs.getD i 0 ≤ 255 := by
  by_cases hi : i < zs.length
  · have := h.2 (zs.getD i 0) (by rw [List.getD_eq_getElem?_getD, List.getElem?_eq_getElem hi]; simp)
    exact this
  · rw [List.getD_eq_getElem?_getD, List.getElem?_eq_none (by omega)]; simp
theorem Rd.below {w w' : World} {a : Option Addr} {zs : List Int} (h : Rd w a zs) (hb : Below w.heap.size w w') : Rd w' a zs := by
  refine ⟨?_, h.2⟩
  rcases h.1 with h1 | ⟨b, o, rfl, h1, h2⟩
  · exact .inl h1
  · refine .inr ⟨b, o, rfl, Nat.lt_of_lt_of_le h1 hb.size, fun i hi => ?_⟩
    rw [← h2 i hi]
    exact hb.cell (p := ⟨b, o + i, none⟩) h1
theorem Rd.cut {w : World} {a : Option Addr} {zs : List Int} (h : Rd w a zs) (at_ n : Nat) (hn : at_ + n ≤ zs.length) {a' : Option Addr}
    (ha : 0 < n → ∀ b o, a = some ⟨b, o, none⟩ → a' = some ⟨b, o + at_, none⟩) : Rd w a' ((zs.drop at_).take n) := by
  refine ⟨?_, fun z hz => h.2 z (List.mem_of_mem_drop (List.mem_of_mem_take hz))⟩
  by_cases h0 : n = 0
  · left; subst h0; simp
  · rcases h.1 with h1 | ⟨b, o, rfl, h1, h2⟩
    · subst h1; simp at hn; omega
    · refine .inr ⟨b, o + at_, ha (by omega) b o rfl, h1, fun i hi => ?_⟩
      have hi' : i < n := by simp at hi; omega
      have := h2 (at_ + i) (by omega)
      rw [Nat.add_assoc, this]
      congr 2
      simp [List.getD_eq_getElem?_getD, hi', List.getElem?_drop]
/-- The number that bytes are, the first the greatest. -/
def val (zs : List Int) : Int := zs.foldl (fun n c => n * 256 + c) 0
theorem val_snoc (zs : List Int) (c : Int) : val (zs ++ [c]) = val zs * 256 + c := by
  simp [val, List.foldl_append]
theorem val_bd (zs : List Int) (h : ∀ z ∈ zs, 0 ≤ z ∧ z ≤ 255) : 0 ≤ val zs ∧ val zs < 256 ^ zs.length := by
  have : ∀ (l : List Int) (n : Int) (k : Nat), (∀ z ∈ l, 0 ≤ z ∧ z ≤ 255) → 0 ≤ n → n < 256 ^ k → 0 ≤ l.foldl (fun n c => n * 256 + c) n ∧ l.foldl (fun n c => n * 256 + c) n < 256 ^ (k + l.length) := by
    intro l; induction l with
    | nil => intro n k _ h1 h2; exact ⟨h1, h2⟩
    | cons c l ih =>
      intro n k hl h1 h2
      have hc := hl c (by simp)
      have := ih (n * 256 + c) (k + 1) (fun z hz => hl z (by simp [hz])) (by omega) (by rw [Int.pow_succ]; omega)
      simpa [Nat.add_assoc, Nat.add_comm 1] using this
  have t := this zs 0 0 h (by omega) (by simp)
  rw [Nat.zero_add] at t
  exact t
theorem take_snoc (zs : List Int) (k : Nat) (h : k < zs.length) : zs.take (k + 1) = zs.take k ++ [zs.getD k 0] := by
  rw [List.take_succ_eq_append_getElem h]; simp [List.getD_eq_getElem?_getD, List.getElem?_eq_getElem h]
theorem val_small (zs : List Int) (h : ∀ z ∈ zs, 0 ≤ z ∧ z ≤ 255) (k : Nat) (hk : k ≤ 3) : 0 ≤ val (zs.take k) ∧ val (zs.take k) < 16777216 := by
  have hb := val_bd (zs.take k) (fun z hz => h z (List.mem_of_mem_take hz))
  have hp : (256 : Int) ^ (zs.take k).length ≤ 256 ^ 3 := by
    have hl : (zs.take k).length ≤ 3 := by simp; omega
    generalize (zs.take k).length = m at hl
    have : m = 0 ∨ m = 1 ∨ m = 2 ∨ m = 3 := by omega
    rcases this with rfl | rfl | rfl | rfl <;> decide
  have h3 : (256 : Int) ^ 3 = 16777216 := by decide
  omega
theorem val_small4 (zs : List Int) (h : ∀ z ∈ zs, 0 ≤ z ∧ z ≤ 255) (hk : zs.length ≤ 4) : 0 ≤ val zs ∧ val zs < 4294967296 := by
  have hb := val_bd zs h
  have hp : (256 : Int) ^ zs.length ≤ 256 ^ 4 := by
    generalize zs.length = m at hk
    have : m = 0 ∨ m = 1 ∨ m = 2 ∨ m = 3 ∨ m = 4 := by omega
    rcases this with rfl | rfl | rfl | rfl | rfl <;> decide
  have h3 : (256 : Int) ^ 4 = 4294967296 := by decide
  omega
theorem u32_join (v c : Int) (h1 : 0 ≤ v) (h2 : v < 16777216) (h3 : 0 ≤ c) (h4 : c ≤ 255) :
    bits .or .u32 (v * 256) (c % 4294967296) = v * 256 + c := by
  have e2 : c % 4294967296 = c := Int.emod_eq_of_lt (by omega) (by omega)
  rw [e2, u32_or _ _ (by omega) (by omega) (by omega) (by omega)]
  have := nat_join 8 (v * 256).toNat c.toNat (by omega) (by omega)
  rw [this]; omega
/-- A block that holds just these bytes, and may be written. -/
def Blk (w : World) (g : Nat) (zs : List Int) : Prop :=
  w.heap[g]? = some (.cells (zs.map (Value.int .u8)).toArray 5 (0, 0)) ∧ ∀ z ∈ zs, 0 ≤ z ∧ z ≤ 255
theorem Blk.lt {w : World} {g : Nat} {zs : List Int} (h : Blk w g zs) : g < w.heap.size := by
  have := h.1
  by_cases hg : g < w.heap.size
  · exact hg
  · rw [Array.getElem?_eq_none (by omega)] at this; cases this
theorem Blk.same {w w' : World} {g : Nat} {zs : List Int} (h : Blk w g zs) (hb : w'.heap[g]? = w.heap[g]?) : Blk w' g zs := ⟨hb.trans h.1, h.2⟩
theorem Blk.below {w w' : World} {g : Nat} {zs : List Int} (h : Blk w g zs) (hb : Below w.heap.size w w') : Blk w' g zs := h.same (hb.block g h.lt)
theorem Blk.cell {w : World} {g : Nat} {zs : List Int} (h : Blk w g zs) (i : Nat) (hi : i < zs.length) : w.cell? ⟨g, i, none⟩ = some (.int .u8 (zs.getD i 0)) := by
  simp [World.cell?, h.1, hi]
theorem Blk.frozen {w : World} {g : Nat} {zs : List Int} (h : Blk w g zs) (i : Nat) : w.frozen? ⟨g, i, none⟩ = false := by
  simp [World.frozen?, h.1]
theorem Blk.rd {w : World} {g : Nat} {zs : List Int} (h : Blk w g zs) (n : Nat) : Rd w (some ⟨g, 0, none⟩) (zs.take n) := by
  refine ⟨.inr ⟨g, 0, rfl, h.lt, fun i hi => ?_⟩, fun z hz => h.2 z (List.mem_of_mem_take hz)⟩
  rw [Nat.zero_add, h.cell i (by simp at hi; omega)]
  have : i < n := by simp at hi; omega
  simp [List.getD_eq_getElem?_getD, this]
end Go.Proofs.Ytgeoadkcmbageaa
namespace Go.Proofs.Ytgeoadkcmbageaa
set_option linter.unusedVariables false
/-- An option: its code, its bytes. -/
structure Opt where
  cd : Nat
  d : List Int
  deriving DecidableEq
def w16 (n : Nat) : List Int := [((n / 256 % 256 : Nat) : Int), ((n % 256 : Nat) : Int)]
def ob (o : Opt) : List Int := w16 o.cd ++ w16 o.d.length ++ o.d
def obs : List Opt → List Int
  | [] => []
  | o :: l => ob o ++ obs l
theorem obs_app : ∀ (l m : List Opt), obs (l ++ m) = obs l ++ obs m
  | [], m => rfl
  | o :: l, m => by simp [obs, obs_app l m]
theorem ob_len (o : Opt) : (ob o).length = 4 + o.d.length := by simp [ob, w16]; omega
/-- What bytes are read as, as options; so often at most. -/
def gop : Nat → List Int → Option (List Opt)
  | 0, zs => if zs = [] then some [] else none
  | n + 1, [] => some []
  | n + 1, a :: b :: c :: d :: r => if (256 * c + d).toNat ≤ r.length then (gop n (r.drop (256 * c + d).toNat)).map (⟨(256 * a + b).toNat, r.take (256 * c + d).toNat⟩ :: ·) else none
  | n + 1, _ :: _ => none
theorem gop_nil (n : Nat) : gop n [] = some [] := by cases n <;> simp [gop]
theorem gop_fuel : ∀ (n m : Nat) (zs : List Int), zs.length ≤ n → zs.length ≤ m → gop n zs = gop m zs
  | 0, m, zs, h, _ => by
    have : zs = [] := List.length_eq_zero_iff.1 (by omega)
    subst this
    rw [gop_nil, gop_nil]
  | n + 1, 0, zs, _, h => by
    have : zs = [] := List.length_eq_zero_iff.1 (by omega)
    subst this
    rw [gop_nil, gop_nil]
  | n + 1, m + 1, [], _, _ => rfl
  | n + 1, m + 1, [a], _, _ => rfl
  | n + 1, m + 1, [a, b], _, _ => rfl
  | n + 1, m + 1, [a, b, c], _, _ => rfl
  | n + 1, m + 1, a :: b :: c :: d :: r, h1, h2 => by
    simp only [gop]
    split
    · rw [gop_fuel n m _ (by simp at h1 ⊢; omega) (by simp at h2 ⊢; omega)]
    · rfl
/-- What bytes are read as, as options. -/
def gopt (zs : List Int) : Option (List Opt) := gop zs.length zs
theorem gopt_nil : gopt [] = some [] := rfl
theorem gopt_four (a b c d : Int) (r : List Int) : gopt (a :: b :: c :: d :: r) = if (256 * c + d).toNat ≤ r.length then (gopt (r.drop (256 * c + d).toNat)).map (⟨(256 * a + b).toNat, r.take (256 * c + d).toNat⟩ :: ·) else none := by
  unfold gopt
  simp only [List.length_cons, gop]
  split
  · rw [gop_fuel _ (r.drop (256 * c + d).toNat).length _ (by simp; omega) (Nat.le_refl _)]
  · rfl
theorem gopt_short {zs : List Int} (h0 : zs ≠ []) (h : zs.length < 4) : gopt zs = none := by
  match zs, h0, h with
  | [a], _, _ => rfl
  | [a, b], _, _ => rfl
  | [a, b, c], _, _ => rfl
/-- What is said. -/
structure Edn where
  sz : Int
  hi : Int
  ve : Int
  dd : Bool
  os : List Opt
/-- It may be said. -/
def Say (e : Edn) : Prop := (0 ≤ e.sz ∧ e.sz ≤ 65535) ∧ (0 ≤ e.hi ∧ e.hi ≤ 255) ∧ (0 ≤ e.ve ∧ e.ve ≤ 255) ∧ (obs e.os).length ≤ 65535
instance (e : Edn) : Decidable (Say e) := by unfold Say; infer_instance
/-- The record's TTL. -/
def ttlE (e : Edn) : Nat := e.hi.toNat * 16777216 + e.ve.toNat * 65536 + if e.dd then 32768 else 0
end Go.Proofs.Ytgeoadkcmbageaa
namespace Go.Proofs.Ytgeoadkcmbageaa
open Go.ChangeShapes Go.WideShapes Go.ChangeAt Go.RowKit
set_option linter.unusedVariables false
set_option linter.unusedSimpArgs false
/-- From the address on the values lie there. -/
def RdV (w : World) (a : Option Addr) (xs : List Value) : Prop :=
  xs = [] ∨ ∃ b o, a = some ⟨b, o, none⟩ ∧ b < w.heap.size ∧ ∀ i (h : i < xs.length), w.cell? ⟨b, o + i, none⟩ = some xs[i]
theorem RdV.below {w w' : World} {a : Option Addr} {xs : List Value} (h : RdV w a xs) (hb : Below w.heap.size w w') : RdV w' a xs := by
  rcases h with h1 | ⟨b, o, rfl, h1, h2⟩
  · exact .inl h1
  · exact .inr ⟨b, o, rfl, Nat.lt_of_lt_of_le h1 hb.size, fun i hi => (hb.cell (p := ⟨b, o + i, none⟩) h1).trans (h2 i hi)⟩
theorem RdV.cells {w : World} {a : Addr} {xs : List Value} (h : RdV w (some a) xs) : ∀ j u, xs[j]? = some u → w.cell? (a.add j) = some u := by
  intro j u hu
  obtain ⟨hj, e⟩ := List.getElem?_eq_some_iff.1 hu
  rcases h with h1 | ⟨b, o, e1, _, h2⟩
  · subst h1; simp at hj
  · cases e1
    rw [Addr.add_lit, h2 j hj, e]
/-- A block that holds just these, and may be written. -/
def BlkV (w : World) (g : Nat) (t : TypeId) (xs : List Value) : Prop := w.heap[g]? = some (.cells xs.toArray t (0, 0))
theorem BlkV.lt {w : World} {g : Nat} {t : TypeId} {xs : List Value} (h : BlkV w g t xs) : g < w.heap.size := (Array.getElem?_eq_some_iff.1 h).1
theorem BlkV.same {w w' : World} {g : Nat} {t : TypeId} {xs : List Value} (h : BlkV w g t xs) (hb : w'.heap[g]? = w.heap[g]?) : BlkV w' g t xs := hb.trans h
theorem BlkV.below {w w' : World} {g : Nat} {t : TypeId} {xs : List Value} (h : BlkV w g t xs) (hb : Below w.heap.size w w') : BlkV w' g t xs := h.same (hb.block g h.lt)
theorem BlkV.cell {w : World} {g : Nat} {t : TypeId} {xs : List Value} (h : BlkV w g t xs) (i : Nat) (hi : i < xs.length) : w.cell? ⟨g, i, none⟩ = some xs[i] := by
  have h' : w.heap[g]? = _ := h
  simp [World.cell?, h', hi]
theorem BlkV.frozen {w : World} {g : Nat} {t : TypeId} {xs : List Value} (h : BlkV w g t xs) (i : Nat) : w.frozen? ⟨g, i, none⟩ = false := by
  have h' : w.heap[g]? = _ := h
  simp [World.frozen?, h']
theorem BlkV.rd {w : World} {g : Nat} {t : TypeId} {xs : List Value} (h : BlkV w g t xs) (n : Nat) : RdV w (some ⟨g, 0, none⟩) (xs.take n) := by
  refine .inr ⟨g, 0, rfl, h.lt, fun i hi => ?_⟩
  have : i < xs.length := by simp at hi; omega
  rw [Nat.zero_add, h.cell i this]
  simp
theorem BlkV.stored {w : World} {g : Nat} {t : TypeId} {xs : List Value} (h : BlkV w g t xs) (i : Nat) (x : Value) : BlkV (w.setCell ⟨g, i, none⟩ x) g t (xs.set i x) := by
  have hg := h.lt
  have h1 : w.heap[g]? = _ := h
  have e : w.heap[g] = .cells xs.toArray t (0, 0) := by
    rw [Array.getElem?_eq_getElem hg] at h1; exact Option.some.inj h1
  unfold BlkV
  simp [World.setCell, hg, Array.getElem_modify, e]
theorem BlkV.cellsSet : ∀ (vs : List Value) (o : Nat) {w : World} {g : Nat} {t : TypeId} {xs : List Value}, BlkV w g t xs → o + vs.length ≤ xs.length →
    BlkV (w.setCells g o vs) g t (xs.take o ++ vs ++ xs.drop (o + vs.length)) ∧ w.grownBy (w.setCells g o vs) (some g)
  | [], o, w, g, t, xs, h, _ => ⟨by simpa [World.setCells] using h, World.grownBy.refl _ _⟩
  | v :: r, o, w, g, t, xs, h, hl => by
    have hl' : o + 1 + r.length ≤ (xs.set o v).length := by simp at hl ⊢; omega
    obtain ⟨h1, h2⟩ := BlkV.cellsSet r (o + 1) (h.stored o v) hl'
    have e1 : (xs.set o v).take (o + 1) ++ r ++ (xs.set o v).drop (o + 1 + r.length) = xs.take o ++ (v :: r) ++ xs.drop (o + (v :: r).length) := by
      have ho : o < xs.length := by simp at hl; omega
      have ht : (xs.set o v).take (o + 1) = xs.take o ++ [v] := by
        rw [List.take_succ_eq_append_getElem (by simpa using ho), List.take_set_of_le (Nat.le_refl _)]
        simp
      have hd : (xs.set o v).drop (o + 1 + r.length) = xs.drop (o + (v :: r).length) := by
        rw [List.drop_set_of_lt (by omega)]
        congr 1
        simp; omega
      rw [ht, hd]
      simp
    rw [e1] at h1
    refine ⟨h1, ?_⟩
    have h0 : w.grownBy (w.setCell ⟨g, o, none⟩ v) (some g) := ⟨rfl, rfl, rfl, by simp [World.setCell], fun k _ hk => Below.heap_setCell _ _ _ _ (fun e => hk (by simp [e]))⟩
    exact ⟨h2.os.trans h0.os, h2.tape.trans h0.tape, h2.output.trans h0.output, Nat.le_trans h0.size h2.size, fun k hk hne => (h2.block k (Nat.lt_of_lt_of_le hk h0.size) hne).trans (h0.block k hk hne)⟩
/-- A list in a block of its own, from the block B on: n of them, the block's whole cells are xs. -/
def OwnV (B : Nat) (w : World) (t : TypeId) (v : Value) (n : Nat) (xs : List Value) : Prop :=
  (v = .slice none 0 0 ∧ n = 0 ∧ xs = []) ∨
  ∃ g, v = .slice (some ⟨g, 0, none⟩) n xs.length ∧ B ≤ g ∧ BlkV w g t xs ∧ n ≤ xs.length ∧ xs.length ≤ maxLen
theorem OwnV.keep {B : Nat} {w w' : World} {t : TypeId} {v : Value} {n : Nat} {xs : List Value} (h : OwnV B w t v n xs) (hb : ∀ g, v.ownBlock = some g → g < w.heap.size → w'.heap[g]? = w.heap[g]?) : OwnV B w' t v n xs := by
  rcases h with h | ⟨g, rfl, h2, h3, h4⟩
  · exact .inl h
  · exact .inr ⟨g, rfl, h2, h3.same (hb g rfl h3.lt), h4⟩
theorem OwnV.mono {B B' : Nat} {w : World} {t : TypeId} {v : Value} {n : Nat} {xs : List Value} (h : OwnV B w t v n xs) (hB : B' ≤ B) : OwnV B' w t v n xs := by
  rcases h with h | ⟨g, h1, h2, h3⟩
  · exact .inl h
  · exact .inr ⟨g, h1, Nat.le_trans hB h2, h3⟩
theorem OwnV.lt {B : Nat} {w : World} {t : TypeId} {v : Value} {n : Nat} {xs : List Value} (h : OwnV B w t v n xs) : ∀ g, v.ownBlock = some g → B ≤ g := by
  intro g hg
  rcases h with ⟨rfl, _⟩ | ⟨g', rfl, h2, _⟩
  · cases hg
  · have : g' = g := Option.some.inj hg
    omega
theorem OwnV.shape {B : Nat} {w : World} {t : TypeId} {v : Value} {n : Nat} {xs : List Value} (h : OwnV B w t v n xs) : ∃ ao, v = .slice ao n xs.length ∧ (ao = none → xs.length = 0) := by
  rcases h with ⟨rfl, rfl, rfl⟩ | ⟨g, rfl, _⟩
  · exact ⟨none, rfl, fun _ => rfl⟩
  · exact ⟨_, rfl, fun h => by cases h⟩
theorem OwnV.le {B : Nat} {w : World} {t : TypeId} {v : Value} {n : Nat} {xs : List Value} (h : OwnV B w t v n xs) : n ≤ xs.length ∧ xs.length ≤ maxLen := by
  rcases h with ⟨_, rfl, rfl⟩ | ⟨g, _, _, _, h4, h5⟩
  · exact ⟨Nat.le_refl _, Nat.zero_le _⟩
  · exact ⟨h4, h5⟩
theorem OwnV.rd {B : Nat} {w : World} {t : TypeId} {ao : Option Addr} {n c : Nat} {xs : List Value} (h : OwnV B w t (.slice ao n c) n xs) (m : Nat) : RdV w ao (xs.take m) := by
  rcases h with ⟨_, _, rfl⟩ | ⟨g, e, _, h3, _⟩
  · exact .inl (by simp)
  · have : ao = some ⟨g, 0, none⟩ := by injection e
    rw [this]; exact h3.rd m
theorem OwnV.nil (B : Nat) (w : World) (t : TypeId) : OwnV B w t (.slice none 0 0) 0 [] := .inl ⟨rfl, rfl, rfl⟩
/-- A list's source: what is appended. -/
theorem src_of {P : Program} {w : World} {tx e' : TypeId} (hk : P.underlying tx = some (.slice e')) {ao : Option Addr} {m c : Nat} {news : List Value} (hr : RdV w ao news) (hl : news.length = m) (h1 : ∀ u ∈ news, u.oneCell' = true) : Src P 1 tx (.slice ao m c) m news w := by
  cases ao with
  | none =>
    have hn : news = [] := by
      rcases hr with h | ⟨b, o, h, _⟩
      · exact h
      · cases h
    subst hn
    subst hl
    exact Src.ofNil w hk c
  | some a => exact Src.ofSlice w hk a m c news (by simp [hl]) hr.cells h1
theorem zeros_eq1 (z : Value) (hz : z.cells = #[z]) (k : Nat) : Builtin.zeroCells z.cells k = (List.replicate k z).toArray := by
  rw [hz]
  apply Array.ext
  · simp [Builtin.zeroCells]
  · intro i h1 h2
    simp [Builtin.zeroCells]
    have : i % 1 = 0 := by omega
    simp [this]
/-- What is known of an element's type. -/
structure ElemTy (P : Program) (t e : TypeId) (z : Value) (bt : Nat) : Prop where
  ht : P.underlying t = some (.slice e)
  hi : (P.info? e).map (fun i => (i.zero, i.size, i.bytes)) = some (some z, 1, bt)
  hz : z.cells = #[z]
theorem run_append_row {P : Program} {t e : TypeId} {z : Value} {bt : Nat} (T : ElemTy P t e z bt) (w : World) (B : Nat) (tx ty : TypeId) (v : Value) (n : Nat) (xs : List Value) (hown : OwnV B w e v n xs)
    (x : Value) (m : Nat) (news : List Value) (hs : Src P 1 tx x m news w) (hb : (n + m) * bt ≤ 140737488355328) (h63 : n + m ≤ maxLen) (hB : B ≤ w.heap.size) :
    ∃ v' w' xs', (Builtin.append_ #[t, tx] ty #[v, x]).run P w = .ok v' w' ∧ OwnV B w' e v' (n + m) xs' ∧ xs'.take (n + m) = xs.take n ++ news ∧ w.grownBy w' v.ownBlock ∧ (∀ Q : Value → Prop, Q z → (∀ u ∈ xs, Q u) → (∀ u ∈ news, Q u) → ∀ u ∈ xs', Q u) ∧ (n + m ≤ xs.length → xs'.length = xs.length) := by
  obtain ⟨i, hi, hz0, hz1, hz2⟩ := info_parts T.hi
  have hs' : Src P i.size tx x m news w := by rw [hz1]; exact hs
  have hnl : news.length = m := by simpa using hs.newsLen
  have grow : ∀ (base : Option Addr) (old : Nat), v = .slice base n old → old < n + m → (Builtin.firstCells i.size n (.slice base n old)).run P w.drew = .ok (xs.take n).toArray w.drew → (xs.take n).length = n → (n + m ≤ xs.length → False) →
      ∃ v' w' xs', (Builtin.append_ #[t, tx] ty #[v, x]).run P w = .ok v' w' ∧ OwnV B w' e v' (n + m) xs' ∧ xs'.take (n + m) = xs.take n ++ news ∧ w.grownBy w' v.ownBlock ∧ (∀ Q : Value → Prop, Q z → (∀ u ∈ xs, Q u) → (∀ u ∈ news, Q u) → ∀ u ∈ xs', Q u) ∧ (n + m ≤ xs.length → xs'.length = xs.length) := by
    intro base old hv ho hold htl hno
    have hge := grownCap_ge w (n + m) old e
    have hle := grownCap_le_maxLen w (n + m) old e h63
    have hr' := run_append_grow_src (P := P) w t tx ty e i z T.ht hi hz0 base n old (xs.take n) hold x m news hs' ho (by simp only [maxLen] at h63; omega) (growslice_fits ho (by rw [hz2]; exact hb))
    rw [zeros_eq1 z T.hz] at hr'
    have e1 : ((xs.take n ++ news).toArray ++ (List.replicate (grownCap w (n + m) old e - (n + m)) z).toArray) = (xs.take n ++ news ++ List.replicate (grownCap w (n + m) old e - (n + m)) z).toArray := by simp
    rw [e1] at hr'
    have hl : (xs.take n ++ news ++ List.replicate (grownCap w (n + m) old e - (n + m)) z).length = grownCap w (n + m) old e := by
      simp only [List.length_append, htl, hnl, List.length_replicate]; omega
    rw [hv]
    refine ⟨_, _, xs.take n ++ news ++ List.replicate (grownCap w (n + m) old e - (n + m)) z, hr', .inr ⟨w.heap.size, by rw [hl], hB, heap_alloc_new w.drew _, by rw [hl]; exact hge, by rw [hl]; exact hle⟩, ?_, ⟨rfl, rfl, rfl, by simp, fun k hk _ => Below.heap_alloc w.drew _ k hk⟩, ?_, fun h => (hno h).elim⟩
    · rw [List.take_append_of_le_length (by simp only [List.length_append, htl, hnl]; omega)]
      exact List.take_of_length_le (by simp only [List.length_append, htl, hnl]; omega)
    · intro Q qz qx qn u hu
      simp only [List.mem_append, List.mem_replicate] at hu
      rcases hu with (hu | hu) | ⟨_, rfl⟩
      · exact qx u (List.mem_of_mem_take hu)
      · exact qn u hu
      · exact qz
  rcases hown with ⟨rfl, rfl, rfl⟩ | ⟨g, rfl, hBg, hblk, hn, hm⟩
  · by_cases hm0 : m = 0
    · subst hm0
      have hnews : news = [] := List.eq_nil_of_length_eq_zero hnl
      subst hnews
      refine ⟨.slice none 0 0, w, [], ?_, .inl ⟨rfl, rfl, rfl⟩, by simp, World.grownBy.refl _ _, (fun Q _ _ _ u hu => nomatch hu), fun _ => rfl⟩
      rcases hs'.kind with ⟨e', hk⟩ | hk <;> simp [Builtin.append_, run_underlying T.ht, run_underlying hk, sizeOf, typeInfo, hi, hs'.len, hs'.cells]
    · exact grow none 0 rfl (by omega) (run_firstCells_none w.drew i.size 0 0 0) (by simp) (fun h => by simp at h; omega)
  · by_cases hroom : n + m ≤ xs.length
    · have hc : ∀ j, j < news.length → (w.cell? ⟨g, 0 + n * i.size + j, none⟩).isSome = true := by
        intro j hj
        have h2 : 0 + n * i.size + j < xs.length := by rw [hz1]; omega
        rw [hblk.cell _ h2]; rfl
      have hf : ∀ j, j < news.length → w.frozen? ⟨g, 0 + n * i.size + j, none⟩ = false := fun j _ => hblk.frozen _
      have hr' := run_append_room_src (P := P) w t tx ty e i T.ht hi g 0 n xs.length x m news hs' hroom hc hf
      obtain ⟨hset, hgr⟩ : BlkV (w.setCells g (0 + n * i.size) news) g e (xs.take n ++ news ++ xs.drop (n + m)) ∧ w.grownBy (w.setCells g (0 + n * i.size) news) (some g) := by
        have := BlkV.cellsSet news n hblk (by omega)
        rw [hnl] at this
        rw [hz1, Nat.mul_one, Nat.zero_add]
        exact this
      have hlen : (xs.take n ++ news ++ xs.drop (n + m)).length = xs.length := by simp [hnl]; omega
      refine ⟨_, _, xs.take n ++ news ++ xs.drop (n + m), hr', .inr ⟨g, by rw [hlen], hBg, hset, by rw [hlen]; exact hroom, by rw [hlen]; exact hm⟩, ?_, ?_, ?_, fun _ => hlen⟩
      · rw [List.take_append_of_le_length (by simp [hnl]; omega)]
        exact List.take_of_length_le (by simp [hnl]; omega)
      · exact hgr
      · intro Q qz qx qn u hu
        simp only [List.mem_append] at hu
        rcases hu with (hu | hu) | hu
        · exact qx u (List.mem_of_mem_take hu)
        · exact qn u hu
        · exact qx u (List.mem_of_mem_drop hu)
    · refine grow (some ⟨g, 0, none⟩) xs.length rfl (by omega) ?_ (by simp; omega) (fun h => hroom h)
      have := run_firstCells_some (P := P) w.drew i.size n ⟨g, 0, none⟩ n xs.length (xs.take n) (by rw [hz1]; simp; omega) (fun j u hu => (hblk.below (Below.refl _ _).drew).rd n |>.cells j u hu)
      exact this
/-- An append, as a step of a walk. -/
theorem wpList_append_row {P : Program} {t e : TypeId} {z : Value} {bt : Nat} (T : ElemTy P t e z bt) (w : World) {ops : Array Oper} {rest : List Oper} {o : Oper} {a : Act} {Q : Exit → Act → World → Prop} (hgd : o.guard = none) (s x : Operand) (tx : TypeId)
    (ho : o.op = .call { callee := .builtin .append, args := #[s, x], argTypes := #[t, tx] }) (B : Nat) (v : Value) (n : Nat) (xs : List Value) (hs : a.eval s = v) (hown : OwnV B w e v n xs)
    (xv : Value) (m : Nat) (news : List Value) (hx : a.eval x = xv) (hsrc : Src P 1 tx xv m news w) (hb : (n + m) * bt ≤ 140737488355328) (h63 : n + m ≤ maxLen) (hB : B ≤ w.heap.size)
    (h : ∀ v' w' xs', Hid (OwnV B w' e v' (n + m) xs') → Hid (xs'.take (n + m) = xs.take n ++ news) → w.grownBy w' v.ownBlock → Hid ((∀ Q : Value → Prop, Q z → (∀ u ∈ xs, Q u) → (∀ u ∈ news, Q u) → ∀ u ∈ xs', Q u) ∧ (n + m ≤ xs.length → xs'.length = xs.length)) → wpList P ops Q rest (a.put o.dst v') w') : wpList P ops Q (o :: rest) a w := by
  refine wpList_plain hgd fun K hK => ?_
  obtain ⟨v', w', xs', hrun, h2, h3, h4, h5⟩ := run_append_row T w B tx o.type v n xs hown xv m news hsrc hb h63 hB
  unfold Oper.wp execOp
  simp only [ho, resolve, invoke, builtin, Sem.run_bind, Sem.run_pure, Result.andThen_ok, List.map_toArray, List.map_cons, List.map_nil, hs, hx, hrun]
  exact hK _ _ (h v' w' xs' h2 h3 h4 h5)
end Go.Proofs.Ytgeoadkcmbageaa
namespace Go.Proofs.Ytgeoadkcmbageaa
open Go.ChangeShapes Go.WideShapes Go.ChangeAt Go.RowKit
set_option linter.unusedVariables false
set_option linter.unusedSimpArgs false
theorem tyT : ElemTy Try.prog 25 9 (.string ⟨#[]⟩) 16 := ⟨Try.underlying25, by kernel_rfl, rfl⟩
/-- Texts as values. -/
def tv (ss : List ByteArray) : List Value := ss.map Value.string
theorem tv_len (ss : List ByteArray) : (tv ss).length = ss.length := by simp [tv]
theorem tv_one (ss : List ByteArray) : ∀ u ∈ tv ss, u.oneCell' = true := by
  intro u hu
  simp only [tv, List.mem_map] at hu
  obtain ⟨s, _, rfl⟩ := hu
  rfl
theorem tv_append (a b : List ByteArray) : tv (a ++ b) = tv a ++ tv b := by simp [tv]
theorem tv_take (a : List ByteArray) (n : Nat) : (tv a).take n = tv (a.take n) := by simp [tv, List.map_take]
/-- Texts that can be read at an address. -/
def RdT (w : World) (a : Option Addr) (ss : List ByteArray) : Prop := RdV w a (tv ss)
theorem RdT.below {w w' : World} {a : Option Addr} {ss : List ByteArray} (h : RdT w a ss) (hb : Below w.heap.size w w') : RdT w' a ss := RdV.below h hb
end Go.Proofs.Ytgeoadkcmbageaa
namespace Go.Proofs.Ytgeoadkcmbageaa
open Go.ChangeShapes Go.WideShapes Go.ChangeAt Go.RowKit
set_option linter.unusedVariables false
set_option linter.unusedSimpArgs false
/-- A text of at most M bytes, as a value. -/
def QS (M : Nat) (u : Value) : Prop := ∃ s : ByteArray, u = .string s ∧ s.size ≤ M
theorem tv_of {M : Nat} : ∀ xs : List Value, (∀ u ∈ xs, QS M u) → ∃ ys, xs = tv ys ∧ ∀ s ∈ ys, s.size ≤ M
  | [], _ => ⟨[], rfl, by simp⟩
  | x :: xs, h => by
    obtain ⟨ys, e1, e2⟩ := tv_of xs (fun u hu => h u (by simp [hu]))
    obtain ⟨s, rfl, hs⟩ := h x (by simp)
    refine ⟨s :: ys, by rw [e1]; rfl, fun q hq => ?_⟩
    rcases List.mem_cons.1 hq with rfl | hq
    · exact hs
    · exact e2 q hq
theorem qs_tv {M : Nat} {ss : List ByteArray} (h : ∀ s ∈ ss, s.size ≤ M) : ∀ u ∈ tv ss, QS M u := by
  intro u hu
  simp only [tv, List.mem_map] at hu
  obtain ⟨s, hs, rfl⟩ := hu
  exact ⟨s, rfl, h s hs⟩
theorem tv_inj : ∀ {a b : List ByteArray}, tv a = tv b → a = b
  | [], [], _ => rfl
  | [], _ :: _, h => by simp [tv] at h
  | _ :: _, [], h => by simp [tv] at h
  | x :: a, y :: b, h => by
    simp only [tv, List.map_cons, List.cons.injEq, Value.string.injEq] at h
    rw [h.1, tv_inj (a := a) (b := b) h.2]
/-- A list of texts in a block of its own. -/
def OwnT (B : Nat) (w : World) (v : Value) (n : Nat) (ss : List ByteArray) (M : Nat) : Prop := OwnV B w 9 v n (tv ss) ∧ ∀ s ∈ ss, s.size ≤ M
theorem OwnT.mono {B B' : Nat} {w : World} {v : Value} {n : Nat} {ss : List ByteArray} {M : Nat} (h : OwnT B w v n ss M) (hB : B' ≤ B) : OwnT B' w v n ss M := ⟨h.1.mono hB, h.2⟩
theorem OwnT.rd {B : Nat} {w : World} {ao : Option Addr} {n c : Nat} {ss : List ByteArray} {M : Nat} (h : OwnT B w (.slice ao n c) n ss M) (m : Nat) : RdT w ao (ss.take m) := by
  have := h.1.rd m
  rw [tv_take] at this
  exact this
theorem OwnT.shape {B : Nat} {w : World} {v : Value} {n : Nat} {ss : List ByteArray} {M : Nat} (h : OwnT B w v n ss M) : ∃ ao, v = .slice ao n ss.length ∧ (ao = none → ss.length = 0) := by
  obtain ⟨ao, h1, h2⟩ := h.1.shape
  rw [tv_len] at h1 h2
  exact ⟨ao, h1, h2⟩
theorem OwnT.le {B : Nat} {w : World} {v : Value} {n : Nat} {ss : List ByteArray} {M : Nat} (h : OwnT B w v n ss M) : n ≤ ss.length ∧ ss.length ≤ maxLen := by
  have := h.1.le
  rw [tv_len] at this
  exact this
theorem wpList_append_T {t : TypeId} (T : ElemTy Try.prog t 9 (.string ⟨#[]⟩) 16) (w : World) {ops : Array Oper} {rest : List Oper} {o : Oper} {a : Act} {Q : Exit → Act → World → Prop} (hgd : o.guard = none) (s x : Operand) (tx e' : TypeId) (hk : Try.prog.underlying tx = some (.slice e'))
    (ho : o.op = .call { callee := .builtin .append, args := #[s, x], argTypes := #[t, tx] }) (B : Nat) (v : Value) (n : Nat) (ss : List ByteArray) (M : Nat) (hs : a.eval s = v) (hown : OwnT B w v n ss M)
    (ao : Option Addr) (m c : Nat) (ns : List ByteArray) (hx : a.eval x = .slice ao m c) (hr : RdT w ao ns) (hl : ns.length = m) (hM : ∀ s ∈ ns, s.size ≤ M) (hb : n + m ≤ 8796093022000) (hB : B ≤ w.heap.size)
    (h : ∀ v' w' ys, Hid (OwnT B w' v' (n + m) ys M) → Hid (ys.take (n + m) = ss.take n ++ ns) → w.grownBy w' v.ownBlock → wpList Try.prog ops Q rest (a.put o.dst v') w') : wpList Try.prog ops Q (o :: rest) a w := by
  refine wpList_append_row T w hgd s x tx ho B v n (tv ss) hs hown.1 (.slice ao m c) m (tv ns) hx (src_of hk hr (by rw [tv_len]; exact hl) (tv_one ns)) (by omega) (by simp only [maxLen]; omega) hB ?_
  intro v' w' xs' h1 h2 h3 h4
  obtain ⟨ys, rfl, hys⟩ := tv_of (M := M) xs' (h4.out.1 (QS M) ⟨⟨#[]⟩, rfl, Nat.zero_le _⟩ (qs_tv hown.2) (qs_tv hM))
  refine h v' w' ys ⟨h1.out, hys⟩ ?_ h3
  have h2' := h2.out
  rw [tv_take, tv_take, ← tv_append] at h2'
  exact tv_inj h2'
theorem emptyT (w : World) (M : Nat) : OwnT w.heap.size (w.alloc (.cells #[] 9)) (.slice (some ⟨w.heap.size, 0, none⟩) 0 0) 0 [] M :=
  ⟨.inr ⟨w.heap.size, rfl, Nat.le_refl _, heap_alloc_new _ _, Nat.le_refl _, Nat.zero_le _⟩, by simp⟩
def CopyPost (ss : List ByteArray) (M : Nat) (w : World) (e : Ending) (w' : World) : Prop :=
  ∃ v ys, e = .returned v ∧ Hid (OwnT w.heap.size w' v ss.length ys M ∧ ys.take ss.length = ss ∧ Below w.heap.size w w')
set_option maxRecDepth 100000 in
set_option maxHeartbeats 800000 in
theorem copyT_any (a : Option Addr) (cap len : Nat) (ss : List ByteArray) (M : Nat) (w : World) (hr : RdT w a ss) (hl : ss.length = len) (hM : ∀ s ∈ ss, s.size ≤ M) (hm : len ≤ 8796093022000) :
    Calls Try.prog 58 #[.slice a len cap] w (CopyPost ss M w) := by
  have HR : Hid (RdT w a ss ∧ ∀ s ∈ ss, s.size ≤ M) := ⟨hr, hM⟩
  have HL : Hid (ss.length = len) := hl
  clear hr hl hM
  have hb1 : Below w.heap.size w (w.alloc (.cells #[] 9)) := (Below.refl _ _).alloc (Nat.le_refl _) _
  go_enter Try.func58, Try.ntmps58
  go_wp2_with (at_builtin; refine wpList_append_T tyT _ rfl _ _ 25 9 Try.underlying25 rfl w.heap.size _ 0 [] M rfl (emptyT w M) a len cap ss rfl (HR.out.1.below hb1) HL.out HR.out.2 (by omega) (by simp) ?_; intro v' w' ys hO hT hG)
  go_ret
  refine ⟨v', ys, rfl, ?_, ?_, ?_⟩
  · have h := hO.out
    rw [Nat.zero_add, ← HL.out] at h
    exact h
  · have h := hT.out
    rw [Nat.zero_add, ← HL.out] at h
    simpa using h
  · refine hb1.grown hG (by simp) ?_
    intro k hk
    have e : w.heap.size = k := Option.some.inj hk
    omega
set_option maxRecDepth 100000 in
theorem copyN_any (a : Option Addr) (cap len : Nat) (ss : List ByteArray) (M : Nat) (w : World) (hr : RdT w a ss) (hl : ss.length = len) (hM : ∀ s ∈ ss, s.size ≤ M) (hm : len ≤ 8796093022000) :
    Calls Try.prog 34 #[.slice a len cap] w (CopyPost ss M w) := by
  have HX : Hid (Calls Try.prog 58 #[.slice a len cap] w (CopyPost ss M w)) := copyT_any a cap len ss M w hr hl hM hm
  clear hr hl hM
  go_enter Try.func34, Try.ntmps34
  go_wp2_with fail
  refine HX.out.mono ?_
  rintro e w1 ⟨v, ys, rfl, H1⟩
  go_wp2
  go_ret
  exact ⟨v, ys, rfl, H1⟩
end Go.Proofs.Ytgeoadkcmbageaa
namespace Go.Proofs.Ytgeoadkcmbageaa
open Go.ChangeShapes Go.WideShapes Go.ChangeAt Go.RowKit
set_option linter.unusedVariables false
set_option linter.unusedSimpArgs false
theorem Try.info5 : (Try.prog.info? 5).map (fun i => (i.zero, i.size, i.bytes)) = some (some (.int .u8 0), 1, 1) := by kernel_rfl
/-- A list of bytes in a block of its own, from the block B on: n of them, the block's whole cells are zs. -/
def Own (B : Nat) (w : World) (v : Value) (n : Nat) (zs : List Int) : Prop :=
  (v = .slice none 0 0 ∧ n = 0 ∧ zs = []) ∨
  ∃ g, v = .slice (some ⟨g, 0, none⟩) n zs.length ∧ B ≤ g ∧ Blk w g zs ∧ n ≤ zs.length ∧ zs.length ≤ maxLen
theorem zeros_eq (k : Nat) : Builtin.zeroCells (Value.int .u8 0).cells k = ((List.replicate k (0 : Int)).map (Value.int .u8)).toArray := by
  apply Array.ext
  · simp [Builtin.zeroCells, Value.cells]
  · intro i h1 h2
    simp [Builtin.zeroCells, Value.cells]
    have : i % 1 = 0 := by omega
    simp [this]
theorem made_eq (k : Nat) : madeCells (Value.int .u8 0).cells (k * 1) = ((List.replicate k (0 : Int)).map (Value.int .u8)).toArray := by
  apply Array.ext
  · simp [madeCells, Value.cells]
  · intro i h1 h2
    simp [madeCells, Value.cells]
    have : i % 1 = 0 := by omega
    simp [this]
theorem rd_cells {w : World} {x : Addr} {zs : List Int} (h : Rd w (some x) zs) : ∀ j u, (zs.map (Value.int .u8))[j]? = some u → w.cell? (x.add j) = some u := by
  intro j u hu
  have hj : j < zs.length := by simpa using (List.getElem?_eq_some_iff.1 hu).1
  rcases h.1 with h1 | ⟨b, o, e, _, h2⟩
  · subst h1; simp at hj
  · cases e
    rw [Addr.add_lit, h2 j hj, ← hu]
    simp [hj]
theorem run_append_blk (w : World) (B : Nat) (ty : TypeId) (v : Value) (n : Nat) (zs : List Int) (hown : Own B w v n zs)
    (ao : Option Addr) (m c : Nat) (news : List Int) (hr : Rd w ao news) (hl : news.length = m) (hc : ao = none → c = 0) (hb : n + m ≤ 140737488355328) (hB : B ≤ w.heap.size) :
    ∃ v' w' zs', (Builtin.append_ #[33, 33] ty #[v, .slice ao m c]).run Try.prog w = .ok v' w' ∧ Own B w' v' (n + m) zs' ∧ zs'.take (n + m) = zs.take n ++ news ∧ w.grownBy w' v.ownBlock := by
  obtain ⟨i, hi, hz0, hz1, hz2⟩ := info_parts Try.info5
  cases ao with
  | none =>
    have hnews : news = [] := by
      rcases hr.1 with h1 | ⟨b, o, h, _⟩
      · exact h1
      · cases h
    subst hnews; subst hl
    rw [hc rfl]
    refine ⟨v, w, zs, ?_, hown, by simp, World.grownBy.refl _ _⟩
    rcases hown with ⟨rfl, rfl, rfl⟩ | ⟨g, rfl, hBg, hblk, hn, hm⟩
    · simp [Builtin.append_, run_underlying Try.underlying33, sizeOf, typeInfo, hi, Builtin.lenOf, Builtin.firstCells]
    · simp [Builtin.append_, run_underlying Try.underlying33, sizeOf, typeInfo, hi, Builtin.lenOf, Builtin.firstCells, hn, storeCells]
  | some a =>
    have hcs := rd_cells hr
    have hml : n + m ≤ maxLen := by simp only [maxLen]; omega
    have hlm : (news.map (Value.int .u8)).length = m * i.size := by rw [hz1]; simp [hl]
    have grown : ∀ (old : Nat), old < n + m → ∀ (row : Option Nat), (n = 0 ∨ n ≤ zs.length) →
        ∃ zs' : List Int, (.cells (((zs.take n).map (Value.int .u8)).toArray ++ (news.map (Value.int .u8)).toArray ++ Builtin.zeroCells (Value.int .u8 0).cells (grownCap w (n + m) old 5 - (n + m))) 5 : Obj) = .cells (zs'.map (Value.int .u8)).toArray 5 (0, 0) ∧
        zs'.length = grownCap w (n + m) old 5 ∧ zs'.take (n + m) = zs.take n ++ news ∧ (∀ z ∈ zs', 0 ≤ z ∧ z ≤ 255) := by
      intro old ho row hn
      have hge := grownCap_ge w (n + m) old 5
      have hzb : ∀ z ∈ zs, 0 ≤ z ∧ z ≤ 255 := by
        rcases hown with ⟨_, _, rfl⟩ | ⟨g, _, _, hblk, _⟩
        · intro z hz; cases hz
        · exact hblk.2
      have htl : (zs.take n).length = n := by
        rcases hn with rfl | hn
        · simp
        · simp; omega
      refine ⟨zs.take n ++ news ++ List.replicate (grownCap w (n + m) old 5 - (n + m)) 0, ?_, ?_, ?_, ?_⟩
      · rw [zeros_eq]; simp
      · simp only [List.length_append, htl, hl, List.length_replicate]; omega
      · rw [List.take_append_of_le_length (by simp only [List.length_append, htl, hl]; omega)]
        exact List.take_of_length_le (by simp only [List.length_append, htl, hl]; omega)
      · intro z hz
        simp only [List.mem_append, List.mem_replicate] at hz
        rcases hz with (hz | hz) | ⟨_, rfl⟩
        · exact hzb z (List.mem_of_mem_take hz)
        · exact hr.2 z hz
        · omega
    have fresh : ∀ (old : Nat), old < n + m → ∀ zs' : List Int, zs'.length = grownCap w (n + m) old 5 → (∀ z ∈ zs', 0 ≤ z ∧ z ≤ 255) →
        Own B (w.drew.alloc (.cells (zs'.map (Value.int .u8)).toArray 5 (0, 0))) (.slice (some ⟨w.heap.size, 0, none⟩) (n + m) (grownCap w (n + m) old 5)) (n + m) zs' := by
      intro old ho zs' hzl hzb
      refine .inr ⟨w.heap.size, by rw [hzl], hB, ⟨heap_alloc_new w.drew _, hzb⟩, ?_, ?_⟩
      · rw [hzl]; exact grownCap_ge w (n + m) old 5
      · rw [hzl]; exact grownCap_le_maxLen w (n + m) old 5 hml
    rcases hown with ⟨rfl, rfl, rfl⟩ | ⟨g, rfl, hBg, hblk, hn, hm⟩
    · by_cases hm0 : m = 0
      · subst hm0
        have hnews : news = [] := List.eq_nil_of_length_eq_zero hl
        subst hnews
        refine ⟨.slice none 0 0, w, [], ?_, .inl ⟨rfl, rfl, rfl⟩, by simp, World.grownBy.refl _ _⟩
        simp [Builtin.append_, run_underlying Try.underlying33, sizeOf, typeInfo, hi, Builtin.lenOf, Builtin.firstCells, loadCells, loadCellsFrom]
      · have hr' := run_append_nil (P := Try.prog) w 33 ty 5 i _ Try.underlying33 hi hz0 a m c (news.map (Value.int .u8)) hlm hcs (by omega) (by omega) (by rw [hz2]; omega)
        obtain ⟨zs', e1, e2, e3, e4⟩ := grown 0 (by omega) none (.inl rfl)
        have hf := fresh 0 (by omega) zs' e2 e4
        simp only [Nat.zero_add, List.take_nil, List.map_nil, List.nil_append, Array.empty_append, List.take_zero] at e1 e2 e3 hf ⊢
        rw [e1] at hr'
        exact ⟨_, _, zs', hr', hf, e3, ⟨rfl, rfl, rfl, by simp, fun k hk _ => Below.heap_alloc w.drew _ k hk⟩⟩
    · by_cases hroom : n + m ≤ zs.length
      · have hr' := run_append_room (P := Try.prog) w 33 ty 5 i Try.underlying33 hi g n zs.length _ hblk.1 a m c (news.map (Value.int .u8)) hlm hcs (ints_oneCell _ _) hroom (by rw [hz1]; simp [hl]; omega)
        have e : (((zs.map (Value.int .u8)).toArray.toList.take (n * i.size)) ++ news.map (Value.int .u8) ++ (zs.map (Value.int .u8)).toArray.toList.drop (n * i.size + (news.map (Value.int .u8)).length)).toArray = ((zs.take n ++ news ++ zs.drop (n + m)).map (Value.int .u8)).toArray := by
          rw [hz1]; simp [hl]
        rw [e] at hr'
        have hlen : (zs.take n ++ news ++ zs.drop (n + m)).length = zs.length := by simp [hl]; omega
        refine ⟨_, _, zs.take n ++ news ++ zs.drop (n + m), hr', .inr ⟨g, by rw [hlen], hBg, ⟨setRow_heap w g _ _ 5 _ hblk.1, ?_⟩, by rw [hlen]; exact hroom, by rw [hlen]; exact hm⟩, ?_,
          ⟨rfl, rfl, rfl, by simp, fun k _ hk => setRow_other w g k _ (fun e => hk (by simp [Value.ownBlock, e]))⟩⟩
        · intro z hz
          simp only [List.mem_append] at hz
          rcases hz with (hz | hz) | hz
          · exact hblk.2 z (List.mem_of_mem_take hz)
          · exact hr.2 z hz
          · exact hblk.2 z (List.mem_of_mem_drop hz)
        · rw [List.take_append_of_le_length (by simp [hl]; omega)]
          exact List.take_of_length_le (by simp [hl]; omega)
      · have holds : ∀ j u, ((zs.take n).map (Value.int .u8))[j]? = some u → w.cell? ((⟨g, 0, none⟩ : Addr).add j) = some u := rd_cells (hblk.rd n)
        have hr' := run_append_grow (P := Try.prog) w 33 ty 5 i _ Try.underlying33 hi hz0 ⟨g, 0, none⟩ n zs.length ((zs.take n).map (Value.int .u8)) (by rw [hz1]; simp; omega) holds a m c (news.map (Value.int .u8)) hlm hcs (by omega) (by simp only [maxLen] at hml; omega) (growslice_fits (by omega) (by rw [hz2]; omega))
        obtain ⟨zs', e1, e2, e3, e4⟩ := grown zs.length (by omega) none (.inr hn)
        have hf := fresh zs.length (by omega) zs' e2 e4
        rw [e1] at hr'
        exact ⟨_, _, zs', hr', hf, e3, ⟨rfl, rfl, rfl, by simp, fun k hk _ => Below.heap_alloc w.drew _ k hk⟩⟩
theorem wpList_append_blk (w : World) {ops : Array Oper} {rest : List Oper} {o : Oper} {a : Act} {Q : Exit → Act → World → Prop} (hgd : o.guard = none) (s x : Operand)
    (ho : o.op = .call { callee := .builtin .append, args := #[s, x], argTypes := #[33, 33] }) (B : Nat) (v : Value) (n : Nat) (zs : List Int) (hs : a.eval s = v) (hown : Own B w v n zs)
    (ao : Option Addr) (m c : Nat) (news : List Int) (hx : a.eval x = .slice ao m c) (hr : Rd w ao news) (hl : news.length = m) (hc : ao = none → c = 0) (hb : n + m ≤ 140737488355328) (hB : B ≤ w.heap.size)
    (h : ∀ v' w' zs', Hid (Own B w' v' (n + m) zs') → Hid (zs'.take (n + m) = zs.take n ++ news) → w.grownBy w' v.ownBlock → wpList Try.prog ops Q rest (a.put o.dst v') w') : wpList Try.prog ops Q (o :: rest) a w := by
  refine wpList_plain hgd fun K hK => ?_
  obtain ⟨v', w', zs', hrun, h2, h3, h4⟩ := run_append_blk w B o.type v n zs hown ao m c news hr hl hc hb hB
  unfold Oper.wp execOp
  simp only [ho, resolve, invoke, builtin, Sem.run_bind, Sem.run_pure, Result.andThen_ok, List.map_toArray, List.map_cons, List.map_nil, hs, hx, hrun]
  exact hK _ _ (h v' w' zs' h2 h3 h4)
/-- 'make([]byte, n)' and 'make([]byte, l, n)'. -/
theorem wpList_make_blk (w : World) {ops : Array Oper} {rest : List Oper} {o : Oper} {a : Act} {Q : Exit → Act → World → Prop} (hgd : o.guard = none) (s x : Operand)
    (ho : o.op = .makeSlice 33 s x) (l n : Nat) (L C : Int) (hs : a.eval s = .int .i64 L) (hx : a.eval x = .int .i64 C) (hL : L = (l : Int)) (hC : C = (n : Int)) (hln : l ≤ n) (hn : n ≤ 281474976710656)
    (h : wpList Try.prog ops Q rest (a.put o.dst (.slice (some ⟨w.heap.size, 0, none⟩) l n)) (w.alloc (.cells ((List.replicate n (0 : Int)).map (Value.int .u8)).toArray 5))) : wpList Try.prog ops Q (o :: rest) a w := by
  refine wpList_plain hgd fun K hK => ?_
  obtain ⟨i, hi, hz0, hz1, hz2⟩ := info_parts Try.info5
  have hrun := run_make (P := Try.prog) w 33 5 i _ Try.underlying33 hi hz0 .i64 .i64 (l : Int) (n : Int) (by omega) (by omega) (by rw [hz2]; omega) (by omega)
  rw [hz1] at hrun
  simp only [Int.toNat_natCast, made_eq] at hrun
  subst hL
  subst hC
  unfold Oper.wp
  simp only [execOp, ho, hs, hx, Sem.run_bind, hrun, Result.andThen]
  exact hK _ _ h
/-- A store of a byte into a block. -/
theorem Blk.stored {w : World} {g : Nat} {zs : List Int} (h : Blk w g zs) (i : Nat) (z : Int) (hz : 0 ≤ z ∧ z ≤ 255) : Blk (w.setCell ⟨g, i, none⟩ (.int .u8 z)) g (zs.set i z) := by
  refine ⟨?_, fun x hx => ?_⟩
  · have hg := h.lt
    have h1 := h.1
    have e : w.heap[g] = .cells (zs.map (Value.int .u8)).toArray 5 (0, 0) := by
      rw [Array.getElem?_eq_getElem hg] at h1; exact Option.some.inj h1
    simp [World.setCell, hg, Array.getElem_modify, e, List.map_set]
  · rcases List.mem_or_eq_of_mem_set hx with hx | hx
    · exact h.2 x hx
    · subst hx; exact hz
end Go.Proofs.Ytgeoadkcmbageaa
namespace Go.Proofs.Ytgeoadkcmbageaa
open Go.ChangeShapes Go.WideShapes Go.ChangeAt Go.RowKit
set_option linter.unusedVariables false
set_option linter.unusedSimpArgs false
/-- The text of bytes. -/
def txt (zs : List Int) : List UInt8 := zs.map fun z => UInt8.ofNat z.toNat
theorem txt_len (zs : List Int) : (txt zs).length = zs.length := by simp [txt]
theorem conv_rd (a : Option Addr) (n c : Nat) (zs : List Int) (w : World) (hr : Rd w a zs) (hl : zs.length = n) :
    (convert 33 9 (.slice a n c)).run Try.prog w = .ok (.string ⟨(txt zs).toArray⟩) w := by
  cases a with
  | none =>
    rcases hr.1 with h1 | ⟨b, o, h, _⟩
    · subst h1; subst hl
      rw [run_convert_bytes_string w 33 9 5 none _ c Try.underlying33 Try.underlying5 Try.underlying9]
      simp [Conv.bytesToString, txt]
      rfl
    · cases h
  | some x =>
    have := run_convert_bytes_back (P := Try.prog) w 33 9 5 x c (txt zs) Try.underlying33 Try.underlying5 Try.underlying9 (fun j hj => by
      rcases hr.1 with h1 | ⟨b, o, h, _, h2⟩
      · subst h1; simp [txt] at hj
      · cases h
        have hj' : j < zs.length := by simpa [txt] using hj
        have e := h2 j hj'
        have hz := hr.2 (zs[j]) (List.getElem_mem hj')
        rw [Addr.add_lit, e]
        simp [txt, hj']
        omega)
    rw [txt_len, hl] at this
    exact this
/-- A list of bytes at an address of its own. -/
def OwnA (B : Nat) (w : World) (ao : Option Addr) (n : Nat) (zs : List Int) : Prop :=
  (ao = none ∧ n = 0 ∧ zs = []) ∨ ∃ g, ao = some ⟨g, 0, none⟩ ∧ B ≤ g ∧ Blk w g zs ∧ n ≤ zs.length ∧ zs.length ≤ maxLen
/-- The block of an address. -/
def blk (ao : Option Addr) : Option Nat := ao.map (·.block)
theorem Own.addr {B : Nat} {w : World} {v : Value} {n : Nat} {zs : List Int} (h : Own B w v n zs) : ∃ ao, v = .slice ao n zs.length ∧ OwnA B w ao n zs := by
  rcases h with ⟨rfl, rfl, rfl⟩ | ⟨g, rfl, hB, hb, hn, hm⟩
  · exact ⟨none, rfl, .inl ⟨rfl, rfl, rfl⟩⟩
  · exact ⟨some ⟨g, 0, none⟩, rfl, .inr ⟨g, rfl, hB, hb, hn, hm⟩⟩
theorem OwnA.lt {B : Nat} {w : World} {ao : Option Addr} {n : Nat} {zs : List Int} (h : OwnA B w ao n zs) : ∀ g, blk ao = some g → B ≤ g ∧ g < w.heap.size := by
  intro g hg
  rcases h with ⟨rfl, _⟩ | ⟨g', rfl, h2, h3, _⟩
  · cases hg
  · have : g' = g := Option.some.inj hg
    subst this; exact ⟨h2, h3.lt⟩
theorem OwnA.rdTake {B : Nat} {w : World} {ao : Option Addr} {n : Nat} {zs : List Int} (h : OwnA B w ao n zs) (m : Nat) : Rd w ao (zs.take m) := by
  rcases h with ⟨rfl, _, rfl⟩ | ⟨g, rfl, h2, h3, _⟩
  · exact ⟨.inl (by simp), by simp⟩
  · exact h3.rd m
theorem OwnA.nil {B : Nat} {w : World} {ao : Option Addr} {n : Nat} {zs : List Int} (h : OwnA B w ao n zs) : ao = none → zs.length = 0 := by
  rintro rfl
  rcases h with ⟨_, _, rfl⟩ | ⟨g, h, _⟩
  · rfl
  · cases h
theorem OwnA.le {B : Nat} {w : World} {ao : Option Addr} {n : Nat} {zs : List Int} (h : OwnA B w ao n zs) : n ≤ zs.length ∧ zs.length ≤ maxLen := by
  rcases h with ⟨_, rfl, rfl⟩ | ⟨g, _, _, _, h4, h5⟩
  · exact ⟨Nat.le_refl _, Nat.zero_le _⟩
  · exact ⟨h4, h5⟩
/-- The bytes of a text, as numbers. -/
def nums (s : ByteArray) : List Int := s.data.toList.map fun b => (b.toNat : Int)
theorem heap_set {w : World} {g : Nat} {cur : Array Value} {t : TypeId} {fr : Nat × Nat} (h : w.heap[g]? = some (.cells cur t fr)) (i : Nat) (v : Value) :
    (w.setCell ⟨g, i, none⟩ v).heap[g]? = some (.cells (cur.setIfInBounds i v) t fr) := by
  have hg : g < w.heap.size := (Array.getElem?_eq_some_iff.1 h).1
  have e : w.heap[g] = .cells cur t fr := by
    rw [Array.getElem?_eq_getElem hg] at h; exact Option.some.inj h
  simp [World.setCell, hg, Array.getElem_modify, e]
end Go.Proofs.Ytgeoadkcmbageaa
namespace Go.Proofs.Ytgeoadkcmbageaa
open Go.ChangeShapes Go.WideShapes Go.ChangeAt Go.RowKit
set_option linter.unusedVariables false
set_option linter.unusedSimpArgs false
def vis (c : Int) : Bool := decide (33 ≤ c) && decide (c ≤ 126)
def dgt (c : Int) : Bool := decide (48 ≤ c) && decide (c ≤ 57)
/-- The byte that the front of a text stands for, and how many bytes of it say so; 0, if they say none. -/
def v2 (a b : Int) : Int := 10 * (a - 48) + (b - 48)
def v3 (a b c : Int) : Int := 100 * (a - 48) + 10 * (b - 48) + (c - 48)
def num3 (l : List Int) : Int × Int :=
  if l.length < 4 then (0, 0)
  else if dgt (l.getD 1 0) && dgt (l.getD 2 0) && dgt (l.getD 3 0) && decide (v3 (l.getD 1 0) (l.getD 2 0) (l.getD 3 0) ≤ 255) then (v3 (l.getD 1 0) (l.getD 2 0) (l.getD 3 0), 4)
  else (0, 0)
def esc (l : List Int) : Int × Int :=
  if l.length ≤ 1 then (0, 0)
  else if dgt (l.getD 1 0) then num3 l
  else if vis (l.getD 1 0) then (l.getD 1 0, 2) else (0, 0)
def fr (l : List Int) : Int × Int :=
  if !vis (l.getD 0 0) then (0, 0)
  else if l.getD 0 0 == 92 then esc l
  else (l.getD 0 0, 1)
end Go.Proofs.Ytgeoadkcmbageaa
namespace Go.Proofs.Ytgeoadkcmbageaa
open Go.ChangeShapes Go.WideShapes Go.ChangeAt Go.RowKit
set_option linter.unusedVariables false
set_option linter.unusedSimpArgs false
/-- Bytes that a backslash stands ahead of. -/
def spc (c : Int) : Bool := c == 46 || c == 92 || c == 34 || c == 59 || c == 40 || c == 41 || c == 64 || c == 36
/-- How a byte is written. -/
def tx1 (c : Int) : List Int := if c < 33 ∨ 126 < c then [92, 48 + c / 100, 48 + c / 10 % 10, 48 + c % 10] else if spc c then [92, c] else [c]
def tx (l : List Int) : List Int := l.flatMap tx1
end Go.Proofs.Ytgeoadkcmbageaa
namespace Go.Proofs.Ytgeoadkcmbageaa
open Go.ChangeShapes Go.WideShapes Go.ChangeAt Go.RowKit
set_option linter.unusedVariables false
set_option linter.unusedSimpArgs false
def fz (z : Int) : Int := if 65 ≤ z ∧ z ≤ 90 then z + 32 else z
/-- The folded bytes. -/
def fl (s : ByteArray) : List Int := (nums s).map fz
end Go.Proofs.Ytgeoadkcmbageaa
namespace Go.Proofs.Ytgeoadkcmbageaa
open Go.ChangeShapes Go.WideShapes Go.ChangeAt Go.RowKit
set_option linter.unusedVariables false
set_option linter.unusedSimpArgs false
/-- The label's bytes and the place behind them; none, if a byte can't be read. -/
def go (l : List Int) (p : Nat) (out : List Int) : Option (List Int × Nat) :=
  if h : p < l.length ∧ l.getD p 0 ≠ 46 then
    if hn : (fr (l.drop p)).2 ≤ 0 then none
    else go l (p + (fr (l.drop p)).2.toNat) (out ++ [(fr (l.drop p)).1])
  else some (out, p)
termination_by l.length - p
decreasing_by omega
def chk (n : Nat) : Int := if 1 ≤ n ∧ n ≤ 63 then 0 else 4
end Go.Proofs.Ytgeoadkcmbageaa
namespace Go.Proofs.Ytgeoadkcmbageaa
open Go.ChangeShapes Go.WideShapes Go.ChangeAt Go.RowKit
set_option linter.unusedVariables false
set_option linter.unusedSimpArgs false
/-- Whether all labels may be; the error of a name. -/
def labsOk (ss : List ByteArray) : Prop := ∀ s ∈ ss, chk s.size = 0
instance (ss : List ByteArray) : Decidable (labsOk ss) := by unfold labsOk; exact inferInstance
end Go.Proofs.Ytgeoadkcmbageaa
namespace Go.Proofs.Ytgeoadkcmbageaa
open Go.ChangeShapes Go.WideShapes Go.ChangeAt Go.RowKit
set_option linter.unusedVariables false
set_option linter.unusedSimpArgs false
/-- A label's text; the text of labels, a . behind each. -/
def tb (s : ByteArray) : ByteArray := ⟨(txt (tx (nums s))).toArray⟩
end Go.Proofs.Ytgeoadkcmbageaa
namespace Go.Proofs.Ytgeoadkcmbageaa
open Go.ChangeShapes Go.WideShapes Go.ChangeAt Go.RowKit
set_option linter.unusedVariables false
set_option linter.unusedSimpArgs false
/-- A label out of bytes. -/
def lb (l : List Int) : ByteArray := ⟨(txt l).toArray⟩
end Go.Proofs.Ytgeoadkcmbageaa
namespace Go.Proofs.Ytgeoadkcmbageaa
open Go.ChangeShapes Go.WideShapes Go.ChangeAt Go.RowKit
set_option linter.unusedVariables false
set_option linter.unusedSimpArgs false
/-- Data: names, numbers, texts, bytes. -/
structure Dat where
  ns : List (List ByteArray)
  us : List Nat
  ts : List ByteArray
  raw : List Int
def most (wd : Nat) : Nat := if wd = 1 then 255 else if wd = 2 then 65535 else 4294967295
end Go.Proofs.Ytgeoadkcmbageaa
namespace Go.Proofs.Ytgeoadkcmbageaa
open Go.ChangeShapes Go.WideShapes Go.ChangeAt Go.RowKit
set_option linter.unusedVariables false
set_option linter.unusedSimpArgs false
set_option maxRecDepth 100000 in
set_option maxHeartbeats 400000 in
theorem same_yes (a b : Option Addr) (n c d : Nat) (zs : List Int) (w : World) (hr : Rd w a zs) (hr' : Rd w b zs) (hl : zs.length = n) :
    Calls Try.prog 32 #[.slice a n c, .slice b n d] w fun e w' => e = .returned (.bool true) ∧ w' = w := by
  have h1 := conv_rd a n c zs w hr hl
  have h2 := conv_rd b n d zs w hr' hl
  clear hr hr'
  generalize txt zs = t at *
  go_enter Try.func32, Try.ntmps32
  go_wp2
  go_ret
  exact ⟨rfl, rfl⟩
/-- A new list of bytes out of 'append([]byte{}, b...)'. -/
theorem empty_own (w : World) : Own w.heap.size (w.alloc (.cells #[] 5)) (.slice (some ⟨w.heap.size, 0, none⟩) 0 0) 0 [] :=
  .inr ⟨w.heap.size, rfl, Nat.le_refl _, ⟨by rw [heap_alloc_new]; rfl, by simp⟩, Nat.le_refl _, Nat.zero_le _⟩
set_option maxRecDepth 100000 in
set_option maxHeartbeats 800000 in
theorem copy_any (a : Option Addr) (cap : Nat) (zs : List Int) (w : World) (hr : Rd w a zs) (hd : a = none → cap = 0) (hm : zs.length ≤ 140737488355328) :
    Calls Try.prog 33 #[.slice a zs.length cap] w fun e w' => ∃ v ys, e = .returned v ∧ Own w.heap.size w' v zs.length ys ∧ ys.take zs.length = zs ∧ Below w.heap.size w w' := by
  have HR : Hid (Rd w a zs) := hr
  have HD : Hid (a = none → cap = 0) := hd
  clear hr hd
  obtain ⟨len, hlen⟩ : ∃ len, len = zs.length := ⟨_, rfl⟩
  rw [← hlen] at hm ⊢
  have HL : Hid (len = zs.length) := hlen
  clear hlen
  have hb1 : Below w.heap.size w (w.alloc (.cells #[] 5)) := (Below.refl _ _).alloc (Nat.le_refl _) _
  go_enter Try.func33, Try.ntmps33
  go_wp2_with (at_builtin; refine wpList_append_blk _ rfl _ _ rfl w.heap.size _ 0 [] rfl (empty_own w) a len cap zs rfl (HR.out.below hb1) HL.out.symm HD.out (by omega) (by simp) ?_; intro v' w' zs' hO hT hG)
  go_ret
  refine ⟨v', zs', rfl, ?_, ?_, ?_⟩
  · have h := hO.out
    rw [Nat.zero_add] at h
    exact h
  · have h := hT.out
    rw [Nat.zero_add] at h
    simpa using h
  · refine hb1.grown hG (by simp) ?_
    intro k hk
    have e : w.heap.size = k := Option.some.inj hk
    omega
set_option maxRecDepth 100000 in
set_option maxHeartbeats 800000 in
theorem clone_any (x : Addr) (cap : Nat) (zs : List Int) (w : World) (hr : Rd w (some x) zs) (hm : zs.length ≤ 140737488355328) :
    Calls Try.prog 75 #[.slice (some x) zs.length cap] w fun e w' => ∃ v ys, e = .returned v ∧ Own w.heap.size w' v zs.length ys ∧ ys.take zs.length = zs ∧ Below w.heap.size w w' := by
  have HR : Hid (Rd w (some x) zs) := hr
  clear hr
  obtain ⟨len, hlen⟩ : ∃ len, len = zs.length := ⟨_, rfl⟩
  rw [← hlen] at hm ⊢
  have HL : Hid (len = zs.length) := hlen
  clear hlen
  have hb1 : Below w.heap.size w (w.alloc (.cells #[] 5)) := (Below.refl _ _).alloc (Nat.le_refl _) _
  have hnil : ∀ W : World, (binOp .eql 33 (.slice (some x) len cap) (.slice none 0 0)).run Try.prog W = .ok (.bool false) W := fun W => Lib.run_eql_slice_nil W _ _ _ _ _ _ _ Try.underlying33
  go_enter Try.func75, Try.ntmps75
  go_wp2_with (at_builtin; refine wpList_append_blk _ rfl _ _ rfl w.heap.size _ 0 [] rfl (empty_own w) (some x) len cap zs rfl (HR.out.below hb1) HL.out.symm (by simp) (by omega) (by simp) ?_; intro v' w' zs' hO hT hG)
  go_ret
  refine ⟨v', zs', rfl, ?_, ?_, ?_⟩
  · have h := hO.out
    rw [Nat.zero_add] at h
    exact h
  · have h := hT.out
    rw [Nat.zero_add] at h
    simpa using h
  · refine hb1.grown hG (by simp) ?_
    intro k hk
    have e : w.heap.size = k := Option.some.inj hk
    omega
theorem clone_none (w : World) :
    Calls Try.prog 75 #[.slice none 0 0] w fun e w' => e = .returned (.slice none 0 0) ∧ w' = w := by
  have hnil : ∀ W : World, (binOp .eql 33 (.slice none 0 0) (.slice none 0 0)).run Try.prog W = .ok (.bool true) W := fun W => Lib.run_eql_slice_nil W _ _ _ _ _ _ _ Try.underlying33
  go_enter Try.func75, Try.ntmps75
  go_wp2
  go_ret
  exact ⟨rfl, rfl⟩
end Go.Proofs.Ytgeoadkcmbageaa
namespace Go.Proofs.Ytgeoadkcmbageaa
open Go.ChangeShapes Go.WideShapes Go.ChangeAt Go.RowKit Go.Deep
set_option linter.unusedVariables false
set_option linter.unusedSimpArgs false
/-- A slice's value: address, length, room. -/
structure Sl where
  a : Option Addr
  n : Nat
  c : Nat
/-- Numbers of four bytes. -/
def uv (us : List Nat) : List Value := us.map fun (n : Nat) => Value.int .u32 (n : Int)
theorem uv_len (us : List Nat) : (uv us).length = us.length := by simp [uv]
/-- A list of texts that can be read. -/
structure TRd (w : World) (s : Sl) (ss : List ByteArray) : Prop where
  rd : RdT w s.a ss
  len : ss.length = s.n
  cap : s.n ≤ s.c ∧ s.c ≤ 9223372036854775807
  nil : s.a = none → s.c = 0
  z63 : ∀ x ∈ ss, x.size ≤ 9223372036854775807
theorem TRd.below {w w' : World} {s : Sl} {ss : List ByteArray} (h : TRd w s ss) (hb : Below w.heap.size w w') : TRd w' s ss := ⟨h.rd.below hb, h.len, h.cap, h.nil, h.z63⟩
/-- A list of names that can be read: at each place a list of texts. -/
structure NRd (w : World) (s : Sl) (nss : List (List ByteArray)) : Prop where
  rd : nss = [] ∨ ∃ b o, s.a = some ⟨b, o, none⟩ ∧ b < w.heap.size ∧ ∀ i (h : i < nss.length), ∃ x : Sl, w.cell? ⟨b, o + i, none⟩ = some (.slice x.a x.n x.c) ∧ TRd w x nss[i]
  len : nss.length = s.n
  cap : s.n ≤ s.c ∧ s.c ≤ 9223372036854775807
  nil : s.a = none → s.c = 0
theorem NRd.below {w w' : World} {s : Sl} {nss : List (List ByteArray)} (h : NRd w s nss) (hb : Below w.heap.size w w') : NRd w' s nss := by
  refine ⟨?_, h.len, h.cap, h.nil⟩
  rcases h.rd with h1 | ⟨b, o, h1, h2, h3⟩
  · exact .inl h1
  · refine .inr ⟨b, o, h1, Nat.lt_of_lt_of_le h2 hb.size, fun i hi => ?_⟩
    obtain ⟨x, h4, h5⟩ := h3 i hi
    exact ⟨x, (hb.cell (p := ⟨b, o + i, none⟩) h2).trans h4, h5.below hb⟩
theorem NRd.at {w : World} {s : Sl} {nss : List (List ByteArray)} (h : NRd w s nss) (i : Nat) (hi : i < nss.length) : ∃ b o, s.a = some ⟨b, o, none⟩ ∧ b < w.heap.size ∧ ∃ x : Sl, w.cell? ⟨b, o + i, none⟩ = some (.slice x.a x.n x.c) ∧ TRd w x nss[i] := by
  rcases h.rd with h1 | ⟨b, o, h1, h2, h3⟩
  · subst h1; simp at hi
  · exact ⟨b, o, h1, h2, h3 i hi⟩
/-- A list of numbers that can be read. -/
structure URd (w : World) (s : Sl) (us : List Nat) : Prop where
  rd : RdV w s.a (uv us)
  len : us.length = s.n
  cap : s.n ≤ s.c ∧ s.c ≤ 9223372036854775807
  nil : s.a = none → s.c = 0
  bd : ∀ x ∈ us, x ≤ 4294967295
theorem URd.below {w w' : World} {s : Sl} {us : List Nat} (h : URd w s us) (hb : Below w.heap.size w w') : URd w' s us := ⟨h.rd.below hb, h.len, h.cap, h.nil, h.bd⟩
/-- A list of bytes that can be read. -/
structure BRd (w : World) (s : Sl) (zs : List Int) : Prop where
  rd : Rd w s.a zs
  len : zs.length = s.n
  cap : s.n ≤ s.c ∧ s.c ≤ 9223372036854775807
  nil : s.a = none → s.c = 0
theorem BRd.below {w w' : World} {s : Sl} {zs : List Int} (h : BRd w s zs) (hb : Below w.heap.size w w') : BRd w' s zs := ⟨h.rd.below hb, h.len, h.cap, h.nil⟩
/-- Where data lie. -/
structure DA where
  p1 : Sl
  p2 : Sl
  p3 : Sl
  p4 : Sl
/-- Data that can be read. -/
structure DRd (w : World) (x : DA) (d : Dat) : Prop where
  h1 : NRd w x.p1 d.ns
  h2 : URd w x.p2 d.us
  h3 : TRd w x.p3 d.ts
  h4 : BRd w x.p4 d.raw
theorem DRd.below {w w' : World} {x : DA} {d : Dat} (h : DRd w x d) (hb : Below w.heap.size w w') : DRd w' x d := ⟨h.h1.below hb, h.h2.below hb, h.h3.below hb, h.h4.below hb⟩
variable {H : Type} {enc : TypeId × Value → H} {W : World}
theorem list_of {α : Type} (n : Nat) (p : Nat → α → Prop) (h : ∀ i, i < n → ∃ x, p i x) : ∃ l : List α, l.length = n ∧ ∀ i (hi : i < l.length), p i l[i] := by
  induction n with
  | zero => exact ⟨[], rfl, fun i hi => absurd hi (Nat.not_lt_zero _)⟩
  | succ n ih =>
    obtain ⟨l, hl, hp⟩ := ih fun i hi => h i (by omega)
    obtain ⟨x, hx⟩ := h n (by omega)
    refine ⟨l ++ [x], by simp [hl], fun i hi => ?_⟩
    by_cases hi' : i < l.length
    · rw [List.getElem_append_left hi']; exact hp i hi'
    · have : i = n := by simp at hi; omega
      subst this
      rw [List.getElem_append_right (by omega)]
      simp [hl, hx]
end Go.Proofs.Ytgeoadkcmbageaa
namespace Go.Proofs.Ytgeoadkcmbageaa
open Go.ChangeShapes Go.WideShapes Go.ChangeAt Go.RowKit
set_option linter.unusedVariables false
set_option linter.unusedSimpArgs false
/-- Data in a block of their own. -/
def DBox (w : World) (b : Nat) (x : DA) : Prop :=
  w.cell? ⟨b, 0, none⟩ = some (.slice x.p1.a x.p1.n x.p1.c) ∧ w.cell? ⟨b, 1, none⟩ = some (.slice x.p2.a x.p2.n x.p2.c) ∧ w.cell? ⟨b, 2, none⟩ = some (.slice x.p3.a x.p3.n x.p3.c) ∧ w.cell? ⟨b, 3, none⟩ = some (.slice x.p4.a x.p4.n x.p4.c) ∧ b < w.heap.size
end Go.Proofs.Ytgeoadkcmbageaa
namespace Go.Proofs.Ytgeoadkcmbageaa
open Go.ChangeShapes Go.WideShapes Go.ChangeAt Go.RowKit
set_option linter.unusedVariables false
set_option linter.unusedSimpArgs false
/-- A list of options that can be read: two cells each. -/
structure OsRd (w : World) (s : Sl) (os : List Opt) : Prop where
  rd : os = [] ∨ ∃ b o, s.a = some ⟨b, o, none⟩ ∧ b < w.heap.size ∧ ∀ i (h : i < os.length), ∃ x : Sl, w.cell? ⟨b, o + i * 2, none⟩ = some (.int .u16 (os[i].cd : Int)) ∧ w.cell? ⟨b, o + i * 2 + 1, none⟩ = some (.slice x.a x.n x.c) ∧ BRd w x os[i].d
  len : os.length = s.n
  cap : s.n ≤ s.c ∧ s.c ≤ 9223372036854775807
  nil : s.a = none → s.c = 0
  cds : ∀ o ∈ os, o.cd < 65536
theorem OsRd.below {w w' : World} {s : Sl} {os : List Opt} (h : OsRd w s os) (hb : Below w.heap.size w w') : OsRd w' s os := by
  refine ⟨?_, h.len, h.cap, h.nil, h.cds⟩
  rcases h.rd with h1 | ⟨b, o, h1, h2, h3⟩
  · exact .inl h1
  · refine .inr ⟨b, o, h1, Nat.lt_of_lt_of_le h2 hb.size, fun i hi => ?_⟩
    obtain ⟨x, e1, e2, h5⟩ := h3 i hi
    exact ⟨x, (hb.cell (p := ⟨b, o + i * 2, none⟩) h2).trans e1, (hb.cell (p := ⟨b, o + i * 2 + 1, none⟩) h2).trans e2, h5.below hb⟩
theorem OsRd.at {w : World} {s : Sl} {os : List Opt} (h : OsRd w s os) (i : Nat) (hi : i < os.length) : ∃ b o, s.a = some ⟨b, o, none⟩ ∧ b < w.heap.size ∧ ∃ x : Sl, w.cell? ⟨b, o + i * 2, none⟩ = some (.int .u16 (os[i].cd : Int)) ∧ w.cell? ⟨b, o + i * 2 + 1, none⟩ = some (.slice x.a x.n x.c) ∧ BRd w x os[i].d := by
  rcases h.rd with h1 | ⟨b, o, h1, h2, h3⟩
  · subst h1; simp at hi
  · exact ⟨b, o, h1, h2, h3 i hi⟩
theorem OsRd.none (w : World) : OsRd w ⟨none, 0, 0⟩ [] := ⟨.inl rfl, rfl, ⟨Nat.le_refl _, Nat.zero_le _⟩, fun _ => rfl, fun o ho => (by cases ho)⟩
theorem box_cell {w : World} {g : Nat} {cs : Array Value} {t : TypeId} (h : w.heap[g]? = some (.cells cs t)) (k : Nat) (v : Value) (hk : cs[k]? = some v) : w.cell? ⟨g, k, none⟩ = some v := by
  simp [World.cell?, h, hk]
theorem box_lt {w : World} {g : Nat} {o : Obj} (h : w.heap[g]? = some o) : g < w.heap.size := (Array.getElem?_eq_some_iff.1 h).1
theorem newE_below (w : World) (o : Obj) : Below w.heap.size w (w.alloc o) := (Below.refl _ _).alloc (Nat.le_refl _) _
theorem upto59 (n m : Int) (w : World) : Calls Try.prog 59 #[.int .i64 n, .int .i64 m] w fun e w' => e = .returned (.bool (decide (0 ≤ n ∧ n ≤ m))) ∧ w' = w := by
  go_enter Try.func59, Try.ntmps59
  by_cases h0 : 0 ≤ n
  · by_cases h1 : n ≤ m
    · go_wp2_with fail
      go_ret
      exact ⟨by simp [h0, h1], rfl⟩
    · go_wp2_with fail
      go_ret
      exact ⟨by simp [h0, h1], rfl⟩
  · have h0' := h0
    go_wp2_with fail
    go_ret
    exact ⟨by simp [show ¬ 0 ≤ n by omega], rfl⟩
end Go.Proofs.Ytgeoadkcmbageaa
namespace Go.Proofs.Ytgeoadkcmbageaa
open Go.ChangeShapes Go.WideShapes Go.ChangeAt Go.RowKit
set_option linter.unusedVariables false
set_option linter.unusedSimpArgs false
theorem obs_step {os : List Opt} {k : Nat} (hk : k < os.length) : (obs (os.take (k + 1))).length = (obs (os.take k)).length + (4 + os[k].d.length) := by
  rw [List.take_succ_eq_append_getElem hk, obs_app, List.length_append]
  simp [obs, ob_len]
theorem obs_le (os : List Opt) (k : Nat) : (obs (os.take k)).length ≤ (obs os).length := by
  have h : obs os = obs (os.take k) ++ obs (os.drop k) := by rw [← obs_app, List.take_append_drop]
  rw [h, List.length_append]
  omega
set_option maxRecDepth 100000 in
set_option maxHeartbeats 1000000 in
theorem fit60 (s : Sl) (os : List Opt) (w : World) (h : OsRd w s os) (hf : ∀ o ∈ os, o.d.length ≤ 65540) : Calls Try.prog 60 #[(.slice s.a s.n s.c)] w fun e w' => e = .returned (.bool (decide ((obs os).length ≤ 65535))) ∧ Hid (Below w.heap.size w w') := by
  have HO : Hid (OsRd w s os) := h
  have HF : Hid (∀ o ∈ os, o.d.length ≤ 65540) := hf
  have hln := h.len
  have hcap := h.cap
  clear h hf
  obtain ⟨sa, N, sc⟩ := s
  simp only at *
  obtain ⟨T, hT⟩ : ∃ T, T = (obs os).length := ⟨_, rfl⟩
  have HT : Hid (T = (obs os).length) := hT
  rw [← hT]
  clear hT
  obtain ⟨B, hB⟩ : ∃ B, B = decide (T ≤ 65535) := ⟨_, rfl⟩
  have HBB : Hid (B = decide (T ≤ 65535)) := hB
  rw [← hB]
  clear hB
  go_enter Try.func60, Try.ntmps60
  go_wp2_with fail
  go_loopw [3, 8] (fun v x wr => ∃ k l : Nat, k ≤ N ∧ l ≤ 65535 ∧ x = .int .i64 k ∧ v = .int .i64 ((65535 : Int) - (l : Int)) ∧ Hid ((obs (os.take k)).length = l) ∧ Hid (Below w.heap.size w wr)) (fun _ x _ => N - (intOf x).toNat)
  case atStart => exact ⟨0, 0, Nat.zero_le _, by omega, rfl, rfl, rfl, Below.refl _ _⟩
  case round =>
    obtain ⟨k, l, hk, hl, rfl, rfl, HL, HB⟩ := hrel
    by_cases hlt : k < N
    · have hlt' : (k : Int) < (N : Int) := by omega
      have hke : k < os.length := by omega
      obtain ⟨b, o, e1, e2, x, e3, e4, e5⟩ := (HO.out.below HB.out).at k hke
      have HX : Hid (os[k].d.length = x.n) := e5.len
      have hx5 : x.n ≤ 65540 := by rw [← HX.out]; exact HF.out _ (List.getElem_mem hke)
      have HS : Hid ((obs (os.take (k + 1))).length = l + (4 + x.n)) := (show _ = _ by rw [obs_step hke, HL.out, HX.out])
      clear e5 HX
      subst e1
      obtain ⟨xa, xn, xc⟩ := x
      simp only at *
      have hnb := newE_below wr (.cells #[.int .u16 (os[k].cd : Int), .slice xa xn xc] 68)
      have hbx : (wr.alloc (.cells #[.int .u16 (os[k].cd : Int), .slice xa xn xc] 68)).heap[wr.heap.size]? = some (.cells #[.int .u16 (os[k].cd : Int), .slice xa xn xc] 68) := heap_alloc_new _ _
      have HB1 : Hid (Below w.heap.size w (wr.alloc (.cells #[.int .u16 (os[k].cd : Int), .slice xa xn xc] 68))) := HB.out.trans (hnb.mono HB.out.size)
      by_cases hh : l + (4 + xn) ≤ 65535
      · have h1 : ¬ (65535 : Int) - (l : Int) - (4 + (xn : Int)) < 0 := by omega
        go_wp2
        go_round
        case rel => exact ⟨k + 1, l + (4 + xn), by omega, hh, by go_num, by go_num, HS.out, HB1.out⟩
        case measure => simp [intOf]; omega
      · have h1 : (65535 : Int) - (l : Int) - (4 + (xn : Int)) < 0 := by omega
        have h2 : ¬ T ≤ 65535 := by
          have := obs_le os (k + 1)
          have := HS.out
          have := HT.out
          omega
        have h3 : decide (T ≤ 65535) = false := decide_eq_false h2
        have h4 : B = false := HBB.out.trans h3
        clear h2 h3 HBB
        subst h4
        go_wp2
        go_ret
        exact ⟨rfl, HB1.out⟩
    · have hge : (N : Int) ≤ (k : Int) := by omega
      have h3 : decide (T ≤ 65535) = true := by
        rw [decide_eq_true_eq, HT.out]
        have := HL.out
        rw [List.take_of_length_le (by omega)] at this
        omega
      have h4 : B = true := HBB.out.trans h3
      clear h3 HBB
      subst h4
      go_wp2
      go_ret
      exact ⟨rfl, HB.out⟩
set_option maxRecDepth 100000 in
set_option maxHeartbeats 1000000 in
theorem may36 (E : Edn) (s : Sl) (w : World) (h : OsRd w s E.os) (hf : ∀ o ∈ E.os, o.d.length ≤ 65540) : Calls Try.prog 36 #[.agg #[.int .i64 E.sz, .int .i64 E.hi, .int .i64 E.ve, .bool E.dd, .slice s.a s.n s.c]] w fun e w' => e = .returned (.bool (decide (Say E))) ∧ Hid (Below w.heap.size w w') := by
  have hb0 := newE_below w (.cells #[.int .i64 E.sz, .int .i64 E.hi, .int .i64 E.ve, .bool E.dd, .slice s.a s.n s.c] 24)
  have hbx : (w.alloc (.cells #[.int .i64 E.sz, .int .i64 E.hi, .int .i64 E.ve, .bool E.dd, .slice s.a s.n s.c] 24)).heap[w.heap.size]? = some (.cells #[.int .i64 E.sz, .int .i64 E.hi, .int .i64 E.ve, .bool E.dd, .slice s.a s.n s.c] 24) := heap_alloc_new _ _
  have KF := Lib.hid (fit60 s E.os _ (h.below hb0) hf)
  have HB : Hid (Below w.heap.size w (w.alloc (.cells #[.int .i64 E.sz, .int .i64 E.hi, .int .i64 E.ve, .bool E.dd, .slice s.a s.n s.c] 24))) := hb0
  obtain ⟨B, hB⟩ : ∃ B, B = decide (Say E) := ⟨_, rfl⟩
  have HS : Hid (B = decide (Say E)) := hB
  rw [← hB]
  unfold Say at hB
  obtain ⟨F, hF⟩ : ∃ F, F = decide ((obs E.os).length ≤ 65535) := ⟨_, rfl⟩
  rw [← hF] at KF
  obtain ⟨sz, hi, ve, dd, os⟩ := E
  simp only at *
  have hcap := h.cap
  clear h hb0 hf
  have hB' : B = (decide (0 ≤ sz ∧ sz ≤ 65535) && (decide (0 ≤ hi ∧ hi ≤ 255) && (decide (0 ≤ ve ∧ ve ≤ 255) && F))) := by
    rw [hB, hF, ← Bool.decide_and, ← Bool.decide_and, ← Bool.decide_and]
  have HBB : Hid (B = (decide (0 ≤ sz ∧ sz ≤ 65535) && (decide (0 ≤ hi ∧ hi ≤ 255) && (decide (0 ≤ ve ∧ ve ≤ 255) && F)))) := hB'
  clear hB hF hB' HS
  go_enter Try.func36, Try.ntmps36
  go_wp2_with fail
  generalize w.alloc (.cells _ 24) = w0 at *
  obtain ⟨D, hD⟩ : ∃ D, D = w.heap.size := ⟨_, rfl⟩
  rw [← hD] at hbx ⊢
  clear hD
  have k0 := box_cell hbx 0 _ rfl
  have k1 := box_cell hbx 1 _ rfl
  have k2 := box_cell hbx 2 _ rfl
  have k4 := box_cell hbx 4 _ rfl
  have hlD := box_lt hbx
  clear hbx
  have K1 := Lib.hid (upto59 sz 65535)
  have K2 := Lib.hid (upto59 hi 255)
  have K3 := Lib.hid (upto59 ve 255)
  generalize decide (0 ≤ sz ∧ sz ≤ 65535) = b1 at *
  generalize decide (0 ≤ hi ∧ hi ≤ 255) = b2 at *
  generalize decide (0 ≤ ve ∧ ve ≤ 255) = b3 at *
  have hq : B = (b1 && (b2 && (b3 && F))) := HBB.out
  clear HBB
  subst hq
  go_wp2_with fail
  refine (K1.out w0).mono ?_
  rintro e w1 ⟨rfl, hw⟩
  subst hw
  cases b1
  · go_wp2_with fail
    go_ret
    exact ⟨rfl, HB.out⟩
  · go_wp2_with fail
    refine (K2.out w1).mono ?_
    rintro e w2 ⟨rfl, hw⟩
    subst hw
    cases b2
    · go_wp2_with fail
      go_ret
      exact ⟨rfl, HB.out⟩
    · go_wp2_with fail
      refine (K3.out w2).mono ?_
      rintro e w3 ⟨rfl, hw⟩
      subst hw
      cases b3
      · go_wp2_with fail
        go_ret
        exact ⟨rfl, HB.out⟩
      · go_wp2_with fail
        refine KF.out.mono ?_
        rintro e w4 ⟨rfl, H4⟩
        go_wp2_with fail
        go_ret
        exact ⟨by cases F <;> rfl, HB.out.trans (H4.out.mono HB.out.size)⟩
set_option maxRecDepth 100000 in
set_option maxHeartbeats 1000000 in
theorem ttl37 (E : Edn) (s : Sl) (w : World) (h : Say E) : Calls Try.prog 37 #[.agg #[.int .i64 E.sz, .int .i64 E.hi, .int .i64 E.ve, .bool E.dd, .slice s.a s.n s.c]] w fun e w' => e = .returned (.int .u32 (ttlE E : Int)) ∧ Hid (Below w.heap.size w w') := by
  have hb0 := newE_below w (.cells #[.int .i64 E.sz, .int .i64 E.hi, .int .i64 E.ve, .bool E.dd, .slice s.a s.n s.c] 24)
  have hbx : (w.alloc (.cells #[.int .i64 E.sz, .int .i64 E.hi, .int .i64 E.ve, .bool E.dd, .slice s.a s.n s.c] 24)).heap[w.heap.size]? = some (.cells #[.int .i64 E.sz, .int .i64 E.hi, .int .i64 E.ve, .bool E.dd, .slice s.a s.n s.c] 24) := heap_alloc_new _ _
  have HB : Hid (Below w.heap.size w (w.alloc (.cells #[.int .i64 E.sz, .int .i64 E.hi, .int .i64 E.ve, .bool E.dd, .slice s.a s.n s.c] 24))) := hb0
  obtain ⟨sz, hi, ve, dd, os⟩ := E
  obtain ⟨_, ⟨g1, g2⟩, ⟨g3, g4⟩, _⟩ := h
  simp only at *
  have e1 : IntKind.u32.wrap hi = hi := by rw [IntKind.wrap_u32]; omega
  have e2 : IntKind.u32.wrap ve = ve := by rw [IntKind.wrap_u32]; omega
  have e3 : IntKind.u32.wrap (hi * 16777216) = hi * 16777216 := by rw [IntKind.wrap_u32]; omega
  have e4 : IntKind.u32.wrap (ve * 65536) = ve * 65536 := by rw [IntKind.wrap_u32]; omega
  have e5 : IntKind.u32.wrap (hi * 16777216 + ve * 65536) = hi * 16777216 + ve * 65536 := by rw [IntKind.wrap_u32]; omega
  have e6 : IntKind.u32.wrap (hi * 16777216 + ve * 65536 + 32768) = hi * 16777216 + ve * 65536 + 32768 := by rw [IntKind.wrap_u32]; omega
  have HT : Hid ((ttlE ⟨sz, hi, ve, false, os⟩ : Int) = hi * 16777216 + ve * 65536) := (show _ = _ by unfold ttlE; simp; omega)
  have HT2 : Hid ((ttlE ⟨sz, hi, ve, true, os⟩ : Int) = hi * 16777216 + ve * 65536 + 32768) := (show _ = _ by unfold ttlE; simp; omega)
  clear hb0
  have k1 := box_cell hbx 1 _ rfl
  have k2 := box_cell hbx 2 _ rfl
  have k3 := box_cell hbx 3 _ rfl
  have hlD := box_lt hbx
  clear hbx
  cases dd
  · rw [HT.out]
    clear HT HT2
    go_enter Try.func37, Try.ntmps37
    go_wp2
    go_ret
    exact ⟨rfl, HB.out⟩
  · rw [HT2.out]
    clear HT HT2
    go_enter Try.func37, Try.ntmps37
    go_wp2
    go_ret
    exact ⟨rfl, HB.out⟩
end Go.Proofs.Ytgeoadkcmbageaa
namespace Go.Proofs.Ytgeoadkcmbageaa
open Go.ChangeShapes Go.WideShapes Go.ChangeAt Go.RowKit
set_option linter.unusedVariables false
set_option linter.unusedSimpArgs false
set_option maxRecDepth 100000 in
set_option maxHeartbeats 400000 in
theorem number_any (a : Option Addr) (len cap : Nat) (zs : List Int) (w : World) (hr : Rd w a zs) (hl : zs.length = len) (hm : len ≤ 4) :
    Calls Try.prog 77 #[.slice a len cap] w fun e w' => e = .returned (.int .u32 (val zs)) ∧ w' = w := by
  have HL : Hid (zs.length = len) := hl
  have HR : Hid (Rd w a zs) := hr
  clear hl hr
  go_enter Try.func77, Try.ntmps77
  go_wp2
  go_loop [3, 8] (fun n i => ∃ k : Nat, k ≤ len ∧ i = .int .i64 k ∧ n = .int .u32 (val (zs.take k))) (fun _ i => len - (intOf i).toNat)
  case atStart => exact ⟨0, Nat.zero_le _, rfl, rfl⟩
  case round =>
    obtain ⟨k, hk, rfl, rfl⟩ := hrel
    by_cases hlt : k < len
    · rcases HR.out.1 with h1 | ⟨b, o, rfl, h1, h2⟩
      · have := HL.out; subst h1; simp at this; omega
      · have hc := h2 k (by rw [HL.out]; exact hlt)
        have hb := HR.out.bd k
        have hv := val_small zs HR.out.2 k (by omega)
        clear h2
        have hlt' : (k : Int) < (len : Int) := by omega
        go_wp2
        go_round
        case rel =>
          refine ⟨k + 1, by omega, by go_num, ?_⟩
          rw [take_snoc zs k (by rw [HL.out]; exact hlt), val_snoc, ← List.getD_eq_getElem?_getD, u32_join _ _ hv.1 hv.2 hb.1 hb.2]
        case measure => simp [intOf]; omega
    · obtain rfl : k = len := by omega
      go_wp2
      go_ret
      have : zs.take k = zs := List.take_of_length_le (by rw [HL.out]; exact Nat.le_refl _)
      rw [this]
      exact ⟨rfl, rfl⟩
theorem put16_yes (n : Int) (w : World) (h0 : 0 ≤ n) (h1 : n ≤ 65535) :
    Calls Try.prog 61 #[.int .i64 n] w fun e w' => e = .returned (.tuple #[.slice (some ⟨w.heap.size, 0, none⟩) 2 2, .int .i64 0]) ∧ w' = w.alloc (.cells #[.int .u8 (n / 256), .int .u8 (n % 256)] 5) := by
  go_enter Try.func61, Try.ntmps61
  go_wp2
  go_ret2
  exact ⟨rfl, rfl⟩
end Go.Proofs.Ytgeoadkcmbageaa
namespace Go.Proofs.Ytgeoadkcmbageaa
open Go.ChangeShapes Go.WideShapes Go.ChangeAt Go.RowKit
set_option linter.unusedVariables false
set_option linter.unusedSimpArgs false
abbrev Piece := Option Addr × Nat × List Int
def pcV (p : Piece) : Value := .slice p.1 p.2.2.length p.2.1
/-- Pieces that can be read: each an address, a capacity, its bytes. -/
def PcR (w : World) (a : Option Addr) (ps : List Piece) : Prop := RdV w a (ps.map pcV) ∧ ∀ p ∈ ps, Rd w p.1 p.2.2 ∧ (p.1 = none → p.2.1 = 0)
theorem PcR.below {w w' : World} {a : Option Addr} {ps : List Piece} (h : PcR w a ps) (hb : Below w.heap.size w w') : PcR w' a ps := ⟨h.1.below hb, fun p hp => ⟨(h.2 p hp).1.below hb, (h.2 p hp).2⟩⟩
theorem PcR.at {w : World} {a : Option Addr} {ps : List Piece} (h : PcR w a ps) (k : Nat) (hk : k < ps.length) : ∃ b o, a = some ⟨b, o, none⟩ ∧ b < w.heap.size ∧ w.cell? ⟨b, o + k, none⟩ = some (.slice ps[k].1 ps[k].2.2.length ps[k].2.1) := by
  rcases h.1 with h1 | ⟨b, o, h1, h2, h3⟩
  · have := congrArg List.length h1
    simp at this
    subst this
    simp at hk
  · refine ⟨b, o, h1, h2, ?_⟩
    have := h3 k (by simpa using hk)
    rw [List.getElem_map] at this
    exact this
/-- All the bytes of the first k pieces. -/
def jn (ps : List Piece) (k : Nat) : List Int := (ps.take k).flatMap (·.2.2)
theorem jn_succ (ps : List Piece) (k : Nat) (h : k < ps.length) : jn ps (k + 1) = jn ps k ++ ps[k].2.2 := by
  unfold jn; rw [List.take_succ_eq_append_getElem h, List.flatMap_append]; simp
theorem jn_le (ps : List Piece) (k : Nat) (h : k ≤ ps.length) : (jn ps k).length ≤ (jn ps ps.length).length := by
  unfold jn
  conv => rhs; rw [List.take_length, ← List.take_append_drop k ps, List.flatMap_append, List.length_append]
  omega
/-- An append that fits. -/
theorem wpList_append_fit (w : World) {ops : Array Oper} {rest : List Oper} {o : Oper} {a : Act} {Q : Exit → Act → World → Prop} (hgd : o.guard = none) (s x : Operand)
    (ho : o.op = .call { callee := .builtin .append, args := #[s, x], argTypes := #[33, 33] }) (g n : Nat) (zs : List Int) (C : Nat) (hC : zs.length = C) (hs : a.eval s = .slice (some ⟨g, 0, none⟩) n C) (hblk : Blk w g zs)
    (ao : Option Addr) (m c : Nat) (news : List Int) (hx : a.eval x = .slice ao m c) (hr : Rd w ao news) (hl : news.length = m) (hc : ao = none → c = 0) (hroom : n + m ≤ C)
    (h : ∀ w' zs', Hid (Blk w' g zs') → Hid (zs'.length = C ∧ zs'.take (n + m) = zs.take n ++ news) → w.grownBy w' (some g) → wpList Try.prog ops Q rest (a.put o.dst (.slice (some ⟨g, 0, none⟩) (n + m) C)) w') : wpList Try.prog ops Q (o :: rest) a w := by
  refine wpList_plain hgd fun K hK => ?_
  subst hC
  obtain ⟨i, hi, hz0, hz1, hz2⟩ := info_parts Try.info5
  have key : ∃ w' zs', (Builtin.append_ #[33, 33] o.type #[.slice (some ⟨g, 0, none⟩) n zs.length, .slice ao m c]).run Try.prog w = .ok (.slice (some ⟨g, 0, none⟩) (n + m) zs.length) w' ∧ Blk w' g zs' ∧ (zs'.length = zs.length ∧ zs'.take (n + m) = zs.take n ++ news) ∧ w.grownBy w' (some g) := by
    cases ao with
    | none =>
      have hnews : news = [] := by
        rcases hr.1 with h1 | ⟨b, o, h, _⟩
        · exact h1
        · cases h
      subst hnews; subst hl
      rw [hc rfl]
      refine ⟨w, zs, ?_, hblk, ⟨rfl, by simp⟩, World.grownBy.refl _ _⟩
      have hn : n ≤ zs.length := by simpa using hroom
      simp [Builtin.append_, run_underlying Try.underlying33, sizeOf, typeInfo, hi, Builtin.lenOf, Builtin.firstCells, hn, storeCells]
    | some ad =>
      have hcs := rd_cells hr
      have hlm : (news.map (Value.int .u8)).length = m * i.size := by rw [hz1]; simp [hl]
      have hr' := run_append_room (P := Try.prog) w 33 o.type 5 i Try.underlying33 hi g n zs.length _ hblk.1 ad m c (news.map (Value.int .u8)) hlm hcs (ints_oneCell _ _) hroom (by rw [hz1]; simp [hl]; omega)
      have e : (((zs.map (Value.int .u8)).toArray.toList.take (n * i.size)) ++ news.map (Value.int .u8) ++ (zs.map (Value.int .u8)).toArray.toList.drop (n * i.size + (news.map (Value.int .u8)).length)).toArray = ((zs.take n ++ news ++ zs.drop (n + m)).map (Value.int .u8)).toArray := by
        rw [hz1]; simp [hl]
      rw [e] at hr'
      have hlen : (zs.take n ++ news ++ zs.drop (n + m)).length = zs.length := by simp [hl]; omega
      refine ⟨_, zs.take n ++ news ++ zs.drop (n + m), hr', ⟨setRow_heap w g _ _ 5 _ hblk.1, ?_⟩, ⟨hlen, ?_⟩,
        ⟨rfl, rfl, rfl, by simp, fun k _ hk => setRow_other w g k _ (fun e => hk (by simp [e]))⟩⟩
      · intro z hz
        simp only [List.mem_append] at hz
        rcases hz with (hz | hz) | hz
        · exact hblk.2 z (List.mem_of_mem_take hz)
        · exact hr.2 z hz
        · exact hblk.2 z (List.mem_of_mem_drop hz)
      · rw [List.take_append_of_le_length (by simp [hl]; omega)]
        exact List.take_of_length_le (by simp [hl]; omega)
  obtain ⟨w', zs', hrun, h2, h3, h4⟩ := key
  unfold Oper.wp execOp
  simp only [ho, resolve, invoke, builtin, Sem.run_bind, Sem.run_pure, Result.andThen_ok, List.map_toArray, List.map_cons, List.map_nil, hs, hx, hrun]
  exact hK _ _ (h w' zs' h2 h3 h4)
set_option maxRecDepth 100000 in
set_option maxHeartbeats 1000000 in
theorem join62 (a : Option Addr) (N C : Nat) (ps : List Piece) (w : World) (hN : ps.length = N) (hp : PcR w a ps) (hNC : N ≤ C) (hNb : N ≤ 1000000) (hs : (jn ps ps.length).length ≤ 140737488355328) :
    Calls Try.prog 62 #[.slice a N C] w fun e w' => e = .returned (.slice (some ⟨w.heap.size, 0, none⟩) (jn ps ps.length).length (jn ps ps.length).length) ∧ Hid (Blk w' w.heap.size (jn ps ps.length) ∧ Below w.heap.size w w') := by
  have HN : Hid (ps.length = N) := hN
  have HP : Hid (PcR w a ps) := hp
  clear hN hp
  obtain ⟨T, hT⟩ : ∃ T, (jn ps ps.length).length = T := ⟨_, rfl⟩
  have HT : Hid ((jn ps ps.length).length = T) := hT
  have HLE : Hid (∀ k, k ≤ N → (jn ps k).length ≤ T) := fun k hk => by rw [← hT]; exact jn_le ps k (by rw [HN.out]; exact hk)
  rw [hT] at hs ⊢
  clear hT
  go_enter Try.func62, Try.ntmps62
  go_wp2_with fail
  go_loop [3, 11] (fun s x => ∃ k : Nat, k ≤ N ∧ x = .int .i64 k ∧ s = .int .i64 ((jn ps k).length : Nat)) (fun _ x => N - (intOf x).toNat)
  case atStart => exact ⟨0, Nat.zero_le _, rfl, rfl⟩
  case round =>
    obtain ⟨k, hk, rfl, rfl⟩ := hrel
    by_cases hlt : k < N
    · have hlt' : (k : Int) < (N : Int) := by omega
      have hke : k < ps.length := by rw [HN.out]; exact hlt
      obtain ⟨b, o, e1, e2, hcl⟩ := HP.out.at k hke
      subst e1
      have hj := jn_succ ps k hke
      have hl1 : (jn ps (k + 1)).length = (jn ps k).length + ps[k].2.2.length := by rw [hj, List.length_append]
      have hle := HLE.out (k + 1) (by omega)
      have HJ : Hid ((jn ps (k + 1)).length = (jn ps k).length + ps[k].2.2.length) := hl1
      have hsum : (jn ps k).length + ps[k].2.2.length ≤ T := by omega
      clear hj hl1 hle
      generalize ps[k].2.2.length = pl at *
      generalize (jn ps k).length = jl at *
      go_wp2
      go_round
      case rel => exact ⟨k + 1, by omega, by go_num, by rw [HJ.out]; go_num⟩
      case measure => simp [intOf]; omega
    · have ek : (jn ps k).length = T := by rw [← HT.out, HN.out, show k = N by omega]
      have hge : (N : Int) ≤ (k : Int) := by omega
      rw [ek]
      clear ek
      go_wp2_with (at_make; refine wpList_make_blk _ rfl _ _ rfl 0 T _ _ rfl rfl (by rfl) (by rfl) (by omega) (by omega) ?_)
      have HO : Hid (Blk (w.alloc (.cells (Array.replicate T (Value.int .u8 0)) 5)) w.heap.size (List.replicate T 0) ∧ Below w.heap.size w (w.alloc (.cells (Array.replicate T (Value.int .u8 0)) 5))) := by
        refine ⟨⟨by rw [heap_alloc_new]; simp, fun z hz => ?_⟩, (Below.refl _ _).alloc (Nat.le_refl _) _⟩
        rw [(List.mem_replicate.1 hz).2]; omega
      go_loopw [6, 24] (fun v x wr => ∃ m jl : Nat, m ≤ N ∧ jl ≤ T ∧ x = .int .i64 m ∧ v = .slice (some ⟨w.heap.size, 0, none⟩) jl T ∧ Hid ((jn ps m).length = jl) ∧ Hid (∃ ys, Blk wr w.heap.size ys ∧ ys.length = T ∧ ys.take jl = jn ps m) ∧ Hid (Below w.heap.size w wr)) (fun _ x _ => N - (intOf x).toNat)
      case atStart => exact ⟨0, 0, Nat.zero_le _, Nat.zero_le _, rfl, rfl, rfl, ⟨_, HO.out.1, by simp, rfl⟩, HO.out.2⟩
      case round =>
        obtain ⟨m, jl, hm, hjl, rfl, rfl, HJL, HW, HB⟩ := hrel
        clear HO
        by_cases hml : m < N
        · have hml' : (m : Int) < (N : Int) := by omega
          have hme : m < ps.length := by rw [HN.out]; exact hml
          have HPw : Hid (PcR wr a ps) := HP.out.below HB.out
          obtain ⟨b, o, e1, e2, hcl⟩ := HPw.out.at m hme
          subst e1
          obtain ⟨ys, hO, hYL, hT⟩ := HW.out
          have hsl : (jn ps m).length + ps[m].2.2.length ≤ T := by
            have h1 := jn_succ ps m hme
            have h2 := HLE.out (m + 1) (by omega)
            rw [h1, List.length_append] at h2
            exact h2
          have HQ : Hid (Blk wr w.heap.size ys ∧ ys.length = T ∧ ys.take jl = jn ps m ∧ jn ps (m + 1) = jn ps m ++ ps[m].2.2) := ⟨hO, hYL, hT, jn_succ ps m hme⟩
          have HR : Hid (Rd wr ps[m].1 ps[m].2.2 ∧ (ps[m].1 = none → ps[m].2.1 = 0)) := HPw.out.2 _ (List.getElem_mem hme)
          clear hO hT hYL
          have hsum : jl + ps[m].2.2.length ≤ T := by rw [← HJL.out]; exact hsl
          clear hsl
          go_wp2_with (at_builtin; refine wpList_append_fit _ rfl _ _ rfl w.heap.size jl ys T HQ.out.2.1 rfl HQ.out.1 ps[m].1 ps[m].2.2.length ps[m].2.1 ps[m].2.2 rfl HR.out.1 rfl HR.out.2 hsum ?_; intro w' ys' hO' hT' hG')
          refine ⟨⟨m + 1, jl + ps[m].2.2.length, by omega, hsum, by go_num, rfl, ?_, ⟨ys', hO'.out, hT'.out.1, ?_⟩, ?_⟩, by simp [intOf]; omega⟩
          · show _ = _
            rw [HQ.out.2.2.2, List.length_append, HJL.out]
          · rw [hT'.out.2, HQ.out.2.2.1, HQ.out.2.2.2]
          · exact HB.out.grown hG' HB.out.size (fun q hq => by have := Option.some.inj hq; omega)
        · obtain ⟨ys, hO, hYL, hT⟩ := HW.out
          have em : jn ps m = jn ps ps.length := by rw [HN.out, show m = N by omega]
          have ej : jl = T := by rw [← HJL.out, em, HT.out]
          have ey : ys = jn ps ps.length := by rw [← em, ← hT, ej, ← hYL]; simp
          rw [ey] at hO
          have hge2 : (N : Int) ≤ (m : Int) := by omega
          have HF : Hid (Blk wr w.heap.size (jn ps ps.length)) := hO
          clear hO hT em ey hYL HJL
          subst ej
          go_wp2
          go_ret
          exact ⟨rfl, HF.out, HB.out⟩
end Go.Proofs.Ytgeoadkcmbageaa
namespace Go.Proofs.Ytgeoadkcmbageaa
open Go.ChangeShapes Go.WideShapes Go.ChangeAt Go.RowKit
set_option linter.unusedVariables false
set_option linter.unusedSimpArgs false
def tz (s : ByteArray) : Nat := 1 + s.size
end Go.Proofs.Ytgeoadkcmbageaa
namespace Go.Proofs.Ytgeoadkcmbageaa
open Go.ChangeShapes Go.WideShapes Go.ChangeAt Go.RowKit
set_option linter.unusedVariables false
set_option linter.unusedSimpArgs false
theorem own_mono {B B' : Nat} {w : World} {v : Value} {n : Nat} {zs : List Int} (h : Own B w v n zs) (hB : B' ≤ B) : Own B' w v n zs := by
  rcases h with h | ⟨g, h1, h2, h3⟩
  · exact .inl h
  · exact .inr ⟨g, h1, Nat.le_trans hB h2, h3⟩
end Go.Proofs.Ytgeoadkcmbageaa
namespace Go.Proofs.Ytgeoadkcmbageaa
open Go.ChangeShapes Go.WideShapes Go.ChangeAt Go.RowKit
set_option linter.unusedVariables false
set_option linter.unusedSimpArgs false
theorem neq_ptr_same (a : Addr) (w : World) : (binOp .neq 101 (.pointer (some a)) (.pointer (some a))).run Try.prog w = .ok (.bool false) w := by
  obtain ⟨j, hi⟩ : ∃ j, Try.prog.info? 116 = some j := Option.isSome_iff_exists.1 (by kernel_rfl)
  have h : ∀ d : Nat, (Op.equalIn (d + 1) 101 (.pointer (some a)) (.pointer (some a))).run Try.prog w = .ok true w := fun d => by
    simp [Op.equalIn, run_underlying Try.underlying101, sizeOf, typeInfo, hi, run_sameAddr_same]
  simp only [binOp]
  simp [Op.equal, Op.maxDepth, h 9999]
theorem view0 (a b c d : Value) (w : World) : (Instr.field 118 (.agg #[a, b, c, d]) 0).run Try.prog w = .ok a w := by kernel_rfl
theorem view1 (a b c d : Value) (w : World) : (Instr.field 118 (.agg #[a, b, c, d]) 1).run Try.prog w = .ok b w := by kernel_rfl
theorem view2 (a b c d : Value) (w : World) : (Instr.field 118 (.agg #[a, b, c, d]) 2).run Try.prog w = .ok c w := by kernel_rfl
theorem view3 (a b c d : Value) (w : World) : (Instr.field 118 (.agg #[a, b, c, d]) 3).run Try.prog w = .ok d w := by kernel_rfl
theorem slice_is_nil (a : Option Addr) (n c : Nat) (w : World) : (binOp .eql 33 (.slice a n c) (.slice none 0 0)).run Try.prog w = .ok (.bool a.isNone) w := Lib.run_eql_slice_nil w _ _ _ _ _ _ _ Try.underlying33
attribute [local go_sem] view0 view1 view2 view3 slice_is_nil
end Go.Proofs.Ytgeoadkcmbageaa
namespace Go.Proofs.Ytgeoadkcmbageaa
open Go.ChangeShapes Go.WideShapes Go.ChangeAt Go.RowKit
set_option linter.unusedVariables false
set_option linter.unusedSimpArgs false
attribute [local go_sem] view0 view1 view2 view3 slice_is_nil
/-- A reader's block: itself, its bytes, its place, whether it is bad. -/
def RBlk (w : World) (g : Nat) (t : Value) (k : Int) (bad : Bool) : Prop :=
  w.heap[g]? = some (.cells #[.pointer (some ⟨g, 0, none⟩), t, .int .i64 k, .bool bad] 116 (0, 0))
theorem RBlk.lt {w : World} {g : Nat} {t : Value} {k : Int} {bad : Bool} (h : RBlk w g t k bad) : g < w.heap.size := (Array.getElem?_eq_some_iff.1 h).1
theorem RBlk.c0 {w : World} {g : Nat} {t : Value} {k : Int} {bad : Bool} (h : RBlk w g t k bad) : w.cell? ⟨g, 0, none⟩ = some (.pointer (some ⟨g, 0, none⟩)) := by
  have h' : w.heap[g]? = _ := h
  simp [World.cell?, h']
theorem RBlk.c1 {w : World} {g : Nat} {t : Value} {k : Int} {bad : Bool} (h : RBlk w g t k bad) : w.cell? ⟨g, 1, none⟩ = some t := by
  have h' : w.heap[g]? = _ := h
  simp [World.cell?, h']
theorem RBlk.c2 {w : World} {g : Nat} {t : Value} {k : Int} {bad : Bool} (h : RBlk w g t k bad) : w.cell? ⟨g, 2, none⟩ = some (.int .i64 k) := by
  have h' : w.heap[g]? = _ := h
  simp [World.cell?, h']
theorem RBlk.c3 {w : World} {g : Nat} {t : Value} {k : Int} {bad : Bool} (h : RBlk w g t k bad) : w.cell? ⟨g, 3, none⟩ = some (.bool bad) := by
  have h' : w.heap[g]? = _ := h
  simp [World.cell?, h']
theorem RBlk.fz {w : World} {g : Nat} {t : Value} {k : Int} {bad : Bool} (h : RBlk w g t k bad) (i : Nat) : w.frozen? ⟨g, i, none⟩ = false := by
  have h' : w.heap[g]? = _ := h
  simp [World.frozen?, h']
theorem RBlk.same {w w' : World} {g : Nat} {t : Value} {k : Int} {bad : Bool} (h : RBlk w g t k bad) (hb : w'.heap[g]? = w.heap[g]?) : RBlk w' g t k bad := hb.trans h
theorem RBlk.at {w : World} {g : Nat} {t : Value} {k : Int} {bad : Bool} (h : RBlk w g t k bad) (k' : Int) : RBlk (w.setCell ⟨g, 2, none⟩ (.int .i64 k')) g t k' bad := heap_set h 2 _
set_option maxRecDepth 100000 in
set_option maxHeartbeats 400000 in
theorem piece_in (a : Option Addr) (len cap at_ n : Nat) (zs : List Int) (w : World) (hr : Rd w a zs) (hl : zs.length = len) (hc : len ≤ cap) (hm : len ≤ 140737488355328) (hn : at_ + n ≤ len) :
    Calls Try.prog 78 #[.slice a len cap, .int .i64 at_, .int .i64 n] w fun e w' => (∃ a', e = .returned (.tuple #[.slice a' n (cap - at_), .bool true]) ∧ Hid ((∀ W, Rd W a zs → Rd W a' ((zs.drop at_).take n)) ∧ (a' = none → a = none))) ∧ w' = w := by
  have HL : Hid (zs.length = len) := hl
  have HR : Hid (Rd w a zs) := hr
  clear hl hr
  have h1 : ¬ (at_ : Int) < 0 := by omega
  have h2 : (at_ : Int) ≤ (len : Int) := by omega
  have h3 : ¬ (n : Int) < 0 := by omega
  have h4 : (n : Int) ≤ (len : Int) - (at_ : Int) := by omega
  go_enter Try.func78, Try.ntmps78
  go_wp2
  · go_ret2
    exact ⟨⟨_, rfl, fun W hW => hW.cut at_ n (by rw [HL.out]; exact hn) (fun h b o e => absurd h (by omega)), fun e => e⟩, rfl⟩
  · go_ret2
    exact ⟨⟨_, rfl, fun W hW => hW.cut at_ n (by rw [HL.out]; exact hn) (fun h b o e => by subst e; simp [Addr.add]), fun e => Option.map_eq_none_iff.1 e⟩, rfl⟩
set_option maxRecDepth 100000 in
set_option maxHeartbeats 400000 in
theorem piece_out (a : Option Addr) (len cap : Nat) (at_ n : Int) (w : World) (hm : len ≤ 140737488355328)
    (h : at_ < 0 ∨ (0 ≤ at_ ∧ (len : Int) < at_) ∨ (0 ≤ at_ ∧ at_ ≤ (len : Int) ∧ n < 0) ∨ (0 ≤ at_ ∧ at_ ≤ (len : Int) ∧ 0 ≤ n ∧ (len : Int) - at_ < n)) :
    Calls Try.prog 78 #[.slice a len cap, .int .i64 at_, .int .i64 n] w fun e w' => e = .returned (.tuple #[.slice none 0 0, .bool false]) ∧ w' = w := by
  rcases h with h | ⟨h0, h⟩ | ⟨h0, h1, h⟩ | ⟨h0, h1, h2, h⟩
  · go_enter Try.func78, Try.ntmps78
    go_wp2
    go_ret2
    exact ⟨rfl, rfl⟩
  · go_enter Try.func78, Try.ntmps78
    go_wp2
    go_ret2
    exact ⟨rfl, rfl⟩
  · go_enter Try.func78, Try.ntmps78
    go_wp2
    go_ret2
    exact ⟨rfl, rfl⟩
  · go_enter Try.func78, Try.ntmps78
    go_wp2
    go_ret2
    exact ⟨rfl, rfl⟩
/-- The text lies elsewhere than the reader. -/
def Off (a : Option Addr) (g : Nat) : Prop := ∀ b o, a = some ⟨b, o, none⟩ → b ≠ g
theorem Rd.grown {w w' : World} {a : Option Addr} {zs : List Int} {g : Nat} (h : Rd w a zs) (hg : w.grownBy w' (some g)) (ho : Off a g) : Rd w' a zs := by
  refine ⟨?_, h.2⟩
  rcases h.1 with h1 | ⟨b, o, rfl, h1, h2⟩
  · exact .inl h1
  · refine .inr ⟨b, o, rfl, Nat.lt_of_lt_of_le h1 hg.size, fun i hi => ?_⟩
    rw [← h2 i hi]
    exact World.cell?_of_block (w := w) (a := ⟨b, o + i, none⟩) (hg.block b h1 (fun e => ho b o rfl (Option.some.inj e)))
/-- The world in which a good reader has moved: its place is set, a new block is there for the answer. -/
theorem moved (g : Nat) (t : Value) (k k' : Int) (w : World) (hb : RBlk w g t k false) (cs : Array Value) :
    RBlk ((w.setCell ⟨g, 2, none⟩ (.int .i64 k')).alloc (.cells cs 118)) g t k' false ∧ ((w.setCell ⟨g, 2, none⟩ (.int .i64 k')).alloc (.cells cs 118)).heap[w.heap.size]? = some (.cells cs 118 (0, 0)) ∧
    w.grownBy ((w.setCell ⟨g, 2, none⟩ (.int .i64 k')).alloc (.cells cs 118)) (some g) ∧ ((w.setCell ⟨g, 2, none⟩ (.int .i64 k')).alloc (.cells cs 118)).heap.size = w.heap.size + 1 := by
  have hsz : (w.setCell ⟨g, 2, none⟩ (.int .i64 k')).heap.size = w.heap.size := by simp [World.setCell]
  have hold : ∀ j, j < w.heap.size → ((w.setCell ⟨g, 2, none⟩ (.int .i64 k')).alloc (.cells cs 118)).heap[j]? = (w.setCell ⟨g, 2, none⟩ (.int .i64 k')).heap[j]? := fun j hj => Below.heap_alloc _ _ j (by rw [hsz]; exact hj)
  refine ⟨(hb.at k').same (hold g hb.lt), ?_, ⟨rfl, rfl, rfl, by simp [hsz], fun j hj hne => ?_⟩, by simp [hsz]⟩
  · have := heap_alloc_new (w.setCell ⟨g, 2, none⟩ (.int .i64 k')) (.cells cs 118)
    rw [hsz] at this
    exact this
  · rw [hold j hj]
    exact Below.heap_setCell _ _ _ j (fun e => hne (by rw [e]))
theorem cells4 {w : World} {s : Nat} {a b c d : Value} {t : TypeId} (h : w.heap[s]? = some (.cells #[a, b, c, d] t (0, 0))) :
    w.cell? ⟨s, 0, none⟩ = some a ∧ w.cell? ⟨s, 1, none⟩ = some b ∧ w.cell? ⟨s, 2, none⟩ = some c ∧ w.cell? ⟨s, 3, none⟩ = some d ∧ ∀ i, w.frozen? ⟨s, i, none⟩ = false := by
  simp [World.cell?, World.frozen?, h]
/-- Behind what is written into the new block nothing else has turned. -/
theorem moved_end {w W1 : World} {g s : Nat} {t : Value} {k' : Int} {bad : Bool} (h : RBlk W1 g t k' bad ∧ w.grownBy W1 (some g)) (hs : w.heap.size = s) (hg : g < s) (x0 x1 x2 x3 : Value) :
    RBlk ((((W1.setCell ⟨s, 0, none⟩ x0).setCell ⟨s, 1, none⟩ x1).setCell ⟨s, 2, none⟩ x2).setCell ⟨s, 3, none⟩ x3) g t k' bad ∧
    w.grownBy ((((W1.setCell ⟨s, 0, none⟩ x0).setCell ⟨s, 1, none⟩ x1).setCell ⟨s, 2, none⟩ x2).setCell ⟨s, 3, none⟩ x3) (some g) := by
  have hold : ∀ j, j < s → ((((W1.setCell ⟨s, 0, none⟩ x0).setCell ⟨s, 1, none⟩ x1).setCell ⟨s, 2, none⟩ x2).setCell ⟨s, 3, none⟩ x3).heap[j]? = W1.heap[j]? := by
    intro j hj
    have hne : j ≠ s := by omega
    rw [Below.heap_setCell _ _ _ j hne, Below.heap_setCell _ _ _ j hne, Below.heap_setCell _ _ _ j hne, Below.heap_setCell _ _ _ j hne]
  refine ⟨h.1.same (hold g hg), h.2.os, h.2.tape, h.2.output, ?_, fun j hj hne => (hold j (by omega)).trans (h.2.block j hj hne)⟩
  have := h.2.size
  simpa [World.setCell] using this
set_option maxRecDepth 100000 in
set_option maxHeartbeats 1000000 in
theorem move_here (g : Nat) (a : Option Addr) (len cap k n : Nat) (zs : List Int) (w : World) (hb : RBlk w g (.slice a len cap) k false) (hr : Rd w a zs) (hl : zs.length = len) (hc : len ≤ cap) (hm : len ≤ 140737488355328) (hn : k + n ≤ len) (ho : Off a g) :
    Calls Try.prog 76 #[.pointer (some ⟨g, 0, none⟩), .int .u8 0, .int .i64 n] w fun e w' => ∃ ov, e = .returned (.agg #[.slice ov n (cap - k), .int .i64 ((k : Int) + (n : Int)), .int .i64 ((len : Int) - ((k : Int) + (n : Int))), .bool false]) ∧
      Hid (Rd w' ov ((zs.drop k).take n) ∧ (ov = none → a = none) ∧ RBlk w' g (.slice a len cap) ((k : Int) + (n : Int)) false ∧ w.grownBy w' (some g)) := by
  have HB : Hid (RBlk w g (.slice a len cap) k false) := hb
  have HR : Hid (Rd w a zs) := hr
  have HL : Hid (zs.length = len) := hl
  have HO : Hid (Off a g) := ho
  have hg := hb.lt
  have c0 := hb.c0
  have c1 := hb.c1
  have c2 := hb.c2
  have c3 := hb.c3
  have f2 := hb.fz 2
  have hne := neq_ptr_same ⟨g, 0, none⟩
  clear hb hr hl ho
  go_enter Try.func76, Try.ntmps76
  go_wp2_with fail
  refine (piece_in a len cap k n zs _ (HR.out.below ((Below.refl _ _).alloc (Nat.le_refl _) _)) HL.out hc hm hn).mono ?_
  rintro e w' ⟨⟨ov, rfl, H1⟩, rfl⟩
  go_wp2_with fail
  have hkn : (k : Int) + (n : Int) ≤ (len : Int) := by omega
  have hw : IntKind.i64.wrap ((len : Int) - ((k : Int) + (n : Int))) = (len : Int) - ((k : Int) + (n : Int)) := by rw [IntKind.wrap_i64]; omega
  have hgw : ¬ w.heap.size = g := by omega
  obtain ⟨m1, m2, m3, m4⟩ := moved g (.slice a len cap) k ((k : Int) + (n : Int)) w HB.out #[.slice none 0 0, .int .i64 0, .int .i64 0, .bool false]
  obtain ⟨v0, v1, v2, v3, v4⟩ := cells4 m2
  have d1 := m1.c1
  have d2 := m1.c2
  have HM : Hid (RBlk ((w.setCell ⟨g, 2, none⟩ (.int .i64 ((k : Int) + (n : Int)))).alloc (.cells #[.slice none 0 0, .int .i64 0, .int .i64 0, .bool false] 118)) g (.slice a len cap) ((k : Int) + (n : Int)) false ∧ w.grownBy ((w.setCell ⟨g, 2, none⟩ (.int .i64 ((k : Int) + (n : Int)))).alloc (.cells #[.slice none 0 0, .int .i64 0, .int .i64 0, .bool false] 118)) (some g)) := ⟨m1, m3⟩
  clear m1 m2 m3 c0 c1 c2 c3 f2 hne
  generalize (w.setCell ⟨g, 2, none⟩ (.int .i64 ((k : Int) + (n : Int)))).alloc (.cells #[.slice none 0 0, .int .i64 0, .int .i64 0, .bool false] 118) = W1 at *
  generalize hs : w.heap.size = s at *
  have HS : Hid (w.heap.size = s) := hs
  clear hs
  have v4a := v4 0
  have v4b := v4 1
  have v4c := v4 2
  have v4d := v4 3
  clear v4
  go_region_held3 (fun W => W.cell? ⟨g, 1, none⟩ = some (.slice a len cap) ∧ W.cell? ⟨g, 2, none⟩ = some (.int .i64 ((k : Int) + (n : Int)))) (go_keep) (fail)
  go_wp2
  obtain ⟨h1, h2⟩ := H1.out
  have hM := moved_end HM.out HS.out (by omega) (.slice ov n (cap - k)) (.int .i64 ((k : Int) + (n : Int))) (.int .i64 ((len : Int) - ((k : Int) + (n : Int)))) (.bool false)
  have hR := h1 _ (HR.out.grown hM.2 HO.out)
  clear h1
  refine bodyPost_ret (v := .agg #[.slice ov n (cap - k), .int .i64 ((k : Int) + (n : Int)), .int .i64 ((len : Int) - ((k : Int) + (n : Int))), .bool false]) ?_ rfl ⟨ov, rfl, hR, h2, hM.1, hM.2.os, hM.2.tape, hM.2.output, hM.2.size, hM.2.block⟩
  clear hM hR HM H1 HR HO
  simp [results, Try.results76, go_sem, *]
theorem spoilt (g : Nat) (t : Value) (k : Int) (w : World) (hb : RBlk w g t k false) (cs : Array Value) :
    RBlk (((((w.setCell ⟨g, 0, none⟩ (.pointer (some ⟨g, 0, none⟩))).setCell ⟨g, 1, none⟩ (.slice none 0 0)).setCell ⟨g, 2, none⟩ (.int .i64 0)).setCell ⟨g, 3, none⟩ (.bool true)).alloc (.cells cs 118)) g (.slice none 0 0) 0 true ∧
    w.grownBy (((((w.setCell ⟨g, 0, none⟩ (.pointer (some ⟨g, 0, none⟩))).setCell ⟨g, 1, none⟩ (.slice none 0 0)).setCell ⟨g, 2, none⟩ (.int .i64 0)).setCell ⟨g, 3, none⟩ (.bool true)).alloc (.cells cs 118)) (some g) := by
  have h4 := heap_set (heap_set (heap_set (heap_set hb 0 (.pointer (some ⟨g, 0, none⟩))) 1 (.slice none 0 0)) 2 (.int .i64 0)) 3 (.bool true)
  have hsz : ((((w.setCell ⟨g, 0, none⟩ (.pointer (some ⟨g, 0, none⟩))).setCell ⟨g, 1, none⟩ (.slice none 0 0)).setCell ⟨g, 2, none⟩ (.int .i64 0)).setCell ⟨g, 3, none⟩ (.bool true)).heap.size = w.heap.size := by simp [World.setCell]
  have hoth : ∀ j, j ≠ g → ((((w.setCell ⟨g, 0, none⟩ (.pointer (some ⟨g, 0, none⟩))).setCell ⟨g, 1, none⟩ (.slice none 0 0)).setCell ⟨g, 2, none⟩ (.int .i64 0)).setCell ⟨g, 3, none⟩ (.bool true)).heap[j]? = w.heap[j]? := by
    intro j hj
    rw [Below.heap_setCell _ _ _ j hj, Below.heap_setCell _ _ _ j hj, Below.heap_setCell _ _ _ j hj, Below.heap_setCell _ _ _ j hj]
  have hlt := hb.lt
  have hgr : w.grownBy ((((w.setCell ⟨g, 0, none⟩ (.pointer (some ⟨g, 0, none⟩))).setCell ⟨g, 1, none⟩ (.slice none 0 0)).setCell ⟨g, 2, none⟩ (.int .i64 0)).setCell ⟨g, 3, none⟩ (.bool true)) (some g) := ⟨rfl, rfl, rfl, by rw [hsz]; exact Nat.le_refl _, fun j _ hne => hoth j (fun e => hne (by rw [e]))⟩
  revert h4 hsz hoth hgr
  generalize ((((w.setCell ⟨g, 0, none⟩ (.pointer (some ⟨g, 0, none⟩))).setCell ⟨g, 1, none⟩ (.slice none 0 0)).setCell ⟨g, 2, none⟩ (.int .i64 0)).setCell ⟨g, 3, none⟩ (.bool true)) = W
  intro h4 hsz hoth hgr
  refine ⟨?_, ?_⟩
  · have : (W.alloc (.cells cs 118)).heap[g]? = W.heap[g]? := Below.heap_alloc _ _ g (by omega)
    exact this.trans (h4.trans (by simp))
  · exact ⟨hgr.os, hgr.tape, hgr.output, by simp; omega, fun j hj hne => (Below.heap_alloc _ _ j (by omega)).trans (hgr.block j hj hne)⟩
set_option maxRecDepth 100000 in
set_option maxHeartbeats 1000000 in
theorem move_here_out (g : Nat) (a : Option Addr) (len cap : Nat) (k n : Int) (w : World) (hb : RBlk w g (.slice a len cap) k false) (hc : len ≤ cap) (hm : len ≤ 140737488355328) (hk : 0 ≤ k ∧ k ≤ len) (hn : n < 0 ∨ (len : Int) < k + n) :
    Calls Try.prog 76 #[.pointer (some ⟨g, 0, none⟩), .int .u8 0, .int .i64 n] w fun e w' => e = .returned (.agg #[.slice none 0 0, .int .i64 0, .int .i64 0, .bool true]) ∧
      Hid (RBlk w' g (.slice none 0 0) 0 true ∧ w.grownBy w' (some g)) := by
  have HB : Hid (RBlk w g (.slice a len cap) k false) := hb
  have hg := hb.lt
  have c0 := hb.c0
  have c1 := hb.c1
  have c2 := hb.c2
  have c3 := hb.c3
  have f0 := hb.fz 0
  have f1 := hb.fz 1
  have f2 := hb.fz 2
  have f3 := hb.fz 3
  have hne := neq_ptr_same ⟨g, 0, none⟩
  clear hb
  have HN : Hid (n < 0 ∨ (len : Int) < k + n) := hn
  clear hn
  go_enter Try.func76, Try.ntmps76
  go_wp2_with fail
  refine (piece_out a len cap k n _ hm (by have := HN.out; omega)).mono ?_
  rintro e w' ⟨rfl, rfl⟩
  go_wp2_with fail
  have hM := spoilt g _ _ w HB.out #[.slice none 0 0, .int .i64 0, .int .i64 0, .bool true]
  exact bodyPost_ret (v := .agg #[.slice none 0 0, .int .i64 0, .int .i64 0, .bool true]) (by simp [results, Try.results76, go_sem]) rfl ⟨rfl, hM⟩
set_option maxRecDepth 100000 in
set_option maxHeartbeats 1000000 in
theorem move_isbad (g : Nat) (f n : Int) (t : Value) (k : Int) (w : World) (hb : RBlk w g t k true) :
    Calls Try.prog 76 #[.pointer (some ⟨g, 0, none⟩), .int .u8 f, .int .i64 n] w fun e w' => e = .returned (.agg #[.slice none 0 0, .int .i64 0, .int .i64 0, .bool true]) ∧ Below w.heap.size w w' := by
  have hg := hb.lt
  have c0 := hb.c0
  have c3 := hb.c3
  have hne := neq_ptr_same ⟨g, 0, none⟩
  clear hb
  go_enter Try.func76, Try.ntmps76
  go_wp2
  exact bodyPost_ret (v := .agg #[.slice none 0 0, .int .i64 0, .int .i64 0, .bool true]) (by simp [results, Try.results76, go_sem]) rfl ⟨rfl, ((Below.refl _ _).alloc (Nat.le_refl _) _)⟩
end Go.Proofs.Ytgeoadkcmbageaa
namespace Go.Proofs.Ytgeoadkcmbageaa
open Go.ChangeShapes Go.WideShapes Go.ChangeAt Go.RowKit
set_option linter.unusedVariables false
set_option linter.unusedSimpArgs false
attribute [local go_sem] view0 view1 view2 view3 slice_is_nil
theorem new_below (w : World) (o : Obj) : Below w.heap.size w (w.alloc o) := (Below.refl _ _).alloc (Nat.le_refl _) _
attribute [local go_sem] view0 view1 view2 view3
/-- A reader's state: its place, or none where it is bad. -/
def RSt (w : World) (g : Nat) (a : Option Addr) (len cap : Nat) : Option Nat → Prop
  | some k => RBlk w g (.slice a len cap) k false ∧ k ≤ len
  | none => RBlk w g (.slice none 0 0) 0 true
/-- What becomes of the state by going on over n bytes, by going to a place; the bytes that are gone over. -/
def mv (len : Nat) (st : Option Nat) (n : Int) : Option Nat := match st with
  | some k => if 0 ≤ n ∧ k + n ≤ len then some (k + n.toNat) else none
  | none => none
def tk (zs : List Int) (st : Option Nat) (n : Int) : List Int := match st with
  | some k => if 0 ≤ n ∧ k + n ≤ zs.length then (zs.drop k).take n.toNat else []
  | none => []
def pos : Option Nat → Int
  | some k => k
  | none => 0
def lft (len : Nat) : Option Nat → Int
  | some k => (len : Int) - (k : Int)
  | none => 0
theorem mv_zero (len : Nat) (st : Option Nat) (h : ∀ k, st = some k → k ≤ len) : mv len st 0 = st := by
  cases st with
  | none => rfl
  | some k => have := h k rfl; simp [mv]; omega
theorem tk_len (zs : List Int) (st : Option Nat) (n : Nat) : (tk zs st n).length ≤ n := by
  unfold tk
  split
  · split
    · simp; omega
    · simp
  · simp
theorem tk_bytes (zs : List Int) (st : Option Nat) (n : Int) (h : ∀ z ∈ zs, 0 ≤ z ∧ z ≤ 255) : ∀ z ∈ tk zs st n, 0 ≤ z ∧ z ≤ 255 := by
  unfold tk
  split
  · split
    · intro z hz; exact h z (List.mem_of_mem_drop (List.mem_of_mem_take hz))
    · simp
  · simp
theorem RSt.le {w : World} {g : Nat} {a : Option Addr} {len cap : Nat} {st : Option Nat} (h : RSt w g a len cap st) : ∀ k, st = some k → k ≤ len := by
  rintro k rfl; exact h.2
theorem RSt.lt {w : World} {g : Nat} {a : Option Addr} {len cap : Nat} {st : Option Nat} (h : RSt w g a len cap st) : g < w.heap.size := by
  cases st with
  | none => exact RBlk.lt h
  | some k => exact RBlk.lt h.1
theorem RSt.same {w w' : World} {g : Nat} {a : Option Addr} {len cap : Nat} {st : Option Nat} (h : RSt w g a len cap st) (hb : w'.heap[g]? = w.heap[g]?) : RSt w' g a len cap st := by
  cases st with
  | none => exact RBlk.same h hb
  | some k => exact ⟨RBlk.same h.1 hb, h.2⟩
theorem below_grown {w w' : World} {row : Option Nat} (h : Below w.heap.size w w') : w.grownBy w' row := ⟨h.os, h.tape, h.output, h.size, fun k hk _ => h.block k hk⟩
theorem move_any (g : Nat) (a : Option Addr) (len cap : Nat) (zs : List Int) (st st' : Option Nat) (n : Int) (c : Nat) (w : World) (hs : RSt w g a len cap st) (hr : Rd w a zs) (hl : zs.length = len) (hc : len ≤ cap) (hm : len ≤ 140737488355328) (hd : a = none → cap = 0) (ho : Off a g)
    (hst : mv len st n = st') (htk : (tk zs st n).length = c) :
    Calls Try.prog 76 #[.pointer (some ⟨g, 0, none⟩), .int .u8 0, .int .i64 n] w fun e w' => ∃ ov oc, e = .returned (.agg #[.slice ov c oc, .int .i64 (pos st'), .int .i64 (lft len st'), .bool st'.isNone]) ∧
      Hid (Rd w' ov (tk zs st n) ∧ (ov = none → oc = 0) ∧ RSt w' g a len cap st' ∧ w.grownBy w' (some g)) := by
  subst hst; subst htk
  cases st with
  | none =>
    refine (move_isbad g 0 n _ _ w hs).mono ?_
    rintro e w' ⟨rfl, hb⟩
    exact ⟨none, 0, rfl, ⟨.inl rfl, by simp [tk]⟩, fun _ => rfl, RSt.same (st := none) hs (hb.block g (RBlk.lt hs)), below_grown hb⟩
  | some k =>
    by_cases h : 0 ≤ n ∧ k + n ≤ len
    · obtain ⟨m, rfl⟩ := Int.eq_ofNat_of_zero_le h.1
      have hkm : k + m ≤ len := by omega
      have e1 : mv len (some k) m = some (k + m) := by simp only [mv]; rw [if_pos h]; rfl
      have e2 : tk zs (some k) m = (zs.drop k).take m := by simp only [tk]; rw [if_pos (by rw [hl]; exact h)]; rfl
      have e3 : ((zs.drop k).take m).length = m := by simp; omega
      rw [e1, e2, e3]
      refine (move_here g a len cap k m zs w hs.1 hr hl hc hm hkm ho).mono ?_
      rintro e w' ⟨ov, rfl, H⟩
      obtain ⟨h1, h2, h3, h4⟩ := H.out
      refine ⟨ov, cap - k, by simp [pos, lft], h1, fun e => by rw [hd (h2 e)]; omega, ⟨by simpa using h3, hkm⟩, h4⟩
    · have e1 : mv len (some k) n = none := by simp only [mv]; rw [if_neg h]
      have e2 : tk zs (some k) n = [] := by simp only [tk]; rw [if_neg (by rw [hl]; exact h)]
      rw [e1, e2]
      have hkl := hs.2
      refine (move_here_out g a len cap k n w hs.1 hc hm ⟨by omega, by omega⟩ (by omega)).mono ?_
      rintro e w' ⟨rfl, H⟩
      exact ⟨none, 0, rfl, ⟨.inl rfl, by simp⟩, fun _ => rfl, H.out.1, H.out.2⟩
theorem rtake_any (g : Nat) (a : Option Addr) (len cap : Nat) (zs : List Int) (st : Option Nat) (n : Int) (w : World) (hs : RSt w g a len cap st) (hr : Rd w a zs) (hl : zs.length = len) (hc : len ≤ cap) (hm : len ≤ 140737488355328) (hd : a = none → cap = 0) (ho : Off a g) :
    Calls Try.prog 66 #[.pointer (some ⟨g, 0, none⟩), .int .i64 n] w fun e w' => ∃ v ys, e = .returned v ∧ Hid (Own w.heap.size w' v (tk zs st n).length ys ∧ ys.take (tk zs st n).length = tk zs st n ∧ RSt w' g a len cap (mv len st n) ∧ w.grownBy w' (some g)) := by
  have H0 : Hid (RSt w g a len cap st ∧ Rd w a zs ∧ zs.length = len ∧ (a = none → cap = 0) ∧ Off a g) := ⟨hs, hr, hl, hd, ho⟩
  clear hs hr hl hd ho
  obtain ⟨st', hst⟩ : ∃ x, mv len st n = x := ⟨_, rfl⟩
  obtain ⟨c, htk⟩ : ∃ x, (tk zs st n).length = x := ⟨_, rfl⟩
  have HT : Hid (mv len st n = st' ∧ (tk zs st n).length = c) := ⟨hst, htk⟩
  have hcl : c ≤ len := by
    have h1 := H0.out.2.2.1
    rw [← htk]; unfold tk
    split
    · split
      · simp; omega
      · simp
    · simp
  clear hst htk
  rw [HT.out.1, HT.out.2]
  go_enter Try.func66, Try.ntmps66
  go_wp2_with fail
  refine (move_any g a len cap zs st st' n c _ H0.out.1 H0.out.2.1 H0.out.2.2.1 hc hm H0.out.2.2.2.1 H0.out.2.2.2.2 HT.out.1 HT.out.2).mono ?_
  rintro e w1 ⟨ov, oc, rfl, H1⟩
  cases ov with
  | none =>
    have ec : c = 0 := by
      rw [← HT.out.2]
      rcases H1.out.1.1 with h | ⟨b, o, h, _⟩
      · rw [h]; rfl
      · cases h
    have eo : oc = 0 := H1.out.2.1 rfl
    subst ec; subst eo
    go_wp2_with fail
    refine (clone_none _).mono ?_
    rintro e w2 ⟨rfl, rfl⟩
    go_wp2
    go_ret
    have et : tk zs st n = [] := List.eq_nil_of_length_eq_zero HT.out.2
    exact ⟨_, [], rfl, .inl ⟨rfl, rfl, rfl⟩, by rw [et]; rfl, H1.out.2.2.1, H1.out.2.2.2⟩
  | some x =>
    have HX : Hid (Calls Try.prog 75 #[.slice (some x) c oc] w1 fun e w' => ∃ v ys, e = .returned v ∧ Hid (Own w1.heap.size w' v c ys ∧ ys.take c = tk zs st n ∧ Below w1.heap.size w1 w')) := by
      have := clone_any x oc (tk zs st n) w1 H1.out.1 (by rw [HT.out.2]; omega)
      rw [HT.out.2] at this
      exact this
    go_wp2_with fail
    refine HX.out.mono ?_
    rintro e w2 ⟨v, ys, rfl, H2⟩
    go_wp2
    go_ret
    obtain ⟨p1, p2, p3⟩ := H2.out
    have hgs := H1.out.2.2.1.lt
    have hsz := H1.out.2.2.2.size
    refine ⟨v, ys, rfl, ?_, p2, H1.out.2.2.1.same (p3.block g hgs), ?_⟩
    · rcases p1 with h | ⟨g', h1, h2, h3⟩
      · exact .inl h
      · exact .inr ⟨g', h1, by omega, h3⟩
    · have hg := H1.out.2.2.2
      exact ⟨p3.os.trans hg.os, p3.tape.trans hg.tape, p3.output.trans hg.output, Nat.le_trans hg.size p3.size, fun j hj hne => (p3.block j (by omega)).trans (hg.block j hj hne)⟩
theorem rbad_any (g : Nat) (a : Option Addr) (len cap : Nat) (zs : List Int) (st : Option Nat) (w : World) (hs : RSt w g a len cap st) (hr : Rd w a zs) (hl : zs.length = len) (hc : len ≤ cap) (hm : len ≤ 140737488355328) (hd : a = none → cap = 0) (ho : Off a g) :
    Calls Try.prog 67 #[.pointer (some ⟨g, 0, none⟩)] w fun e w' => e = .returned (.bool st.isNone) ∧ Hid (RSt w' g a len cap st ∧ w.grownBy w' (some g)) := by
  have H0 : Hid (RSt w g a len cap st ∧ Rd w a zs ∧ zs.length = len ∧ (a = none → cap = 0) ∧ Off a g) := ⟨hs, hr, hl, hd, ho⟩
  clear hs hr hl hd ho
  go_enter Try.func67, Try.ntmps67
  go_wp2_with fail
  refine (move_any g a len cap zs st st 0 _ _ H0.out.1 H0.out.2.1 H0.out.2.2.1 hc hm H0.out.2.2.2.1 H0.out.2.2.2.2 (mv_zero len st H0.out.1.le) rfl).mono ?_
  rintro e w1 ⟨ov, oc, rfl, H1⟩
  go_wp2
  go_ret
  exact ⟨rfl, H1.out.2.2.1, H1.out.2.2.2⟩
set_option maxRecDepth 100000 in
set_option maxHeartbeats 400000 in
theorem new_any (x : Addr) (cap : Nat) (zs : List Int) (w : World) (hr : Rd w (some x) zs) (hm : zs.length ≤ 140737488355328) :
    Calls Try.prog 63 #[.slice (some x) zs.length cap] w fun e w' => ∃ gr a' ca, e = .returned (.pointer (some ⟨gr, 0, none⟩)) ∧ Hid (w.heap.size ≤ gr ∧ RBlk w' gr (.slice a' zs.length ca) 0 false ∧ Rd w' a' zs ∧ zs.length ≤ ca ∧ (a' = none → ca = 0) ∧ Off a' gr ∧ (∀ y o, a' = some ⟨y, o, none⟩ → w.heap.size ≤ y ∧ y < w'.heap.size) ∧ Below w.heap.size w w') := by
  have HX : Hid (Calls Try.prog 75 #[.slice (some x) zs.length cap] w fun e w' => ∃ v ys, e = .returned v ∧ Hid (Own w.heap.size w' v zs.length ys ∧ ys.take zs.length = zs ∧ Below w.heap.size w w')) := clone_any x cap zs w hr hm
  clear hr hm
  generalize hl : zs.length = len at *
  have HL : Hid (zs.length = len) := hl
  clear hl
  go_enter Try.func63, Try.ntmps63
  go_wp2_with fail
  refine HX.out.mono ?_
  rintro e w1 ⟨v, ys, rfl, H1⟩
  obtain ⟨a', rfl, hoa⟩ := H1.out.1.addr
  have HO : Hid (OwnA w.heap.size w1 a' len ys ∧ ys.take len = zs ∧ Below w.heap.size w w1) := ⟨hoa, H1.out.2.1, H1.out.2.2⟩
  clear hoa H1
  generalize hy : ys.length = yl
  have HY : Hid (ys.length = yl) := hy
  clear hy
  go_wp2
  go_ret
  obtain ⟨q1, q2, q3⟩ := HO.out
  have hnb := new_below w1 (.cells #[.pointer (some ⟨w1.heap.size, 0, none⟩), .slice a' len yl, .int .i64 0, .bool false] 116)
  have hrd := q1.rdTake len
  rw [q2] at hrd
  refine ⟨w1.heap.size, a', yl, rfl, q3.size, heap_alloc_new _ _, hrd.below hnb, ?_, ?_, ?_, ?_, q3.trans (hnb.mono q3.size)⟩
  · have := q1.le.1; rw [HY.out] at this; exact this
  · intro e; have := q1.nil e; rw [HY.out] at this; exact this
  · rintro y o rfl
    have := (q1.lt y rfl).2
    omega
  · rintro y o rfl
    have h1 := (q1.lt y rfl)
    have h2 := hnb.size
    exact ⟨h1.1, by omega⟩
end Go.Proofs.Ytgeoadkcmbageaa
namespace Go.Proofs.Ytgeoadkcmbageaa
open Go.ChangeShapes Go.WideShapes Go.ChangeAt Go.RowKit
set_option linter.unusedVariables false
set_option linter.unusedSimpArgs false
attribute [local go_sem] view0 view1 view2 view3
theorem ru16_any (g : Nat) (a : Option Addr) (len cap : Nat) (zs : List Int) (st : Option Nat) (w : World) (hs : RSt w g a len cap st) (hr : Rd w a zs) (hl : zs.length = len) (hc : len ≤ cap) (hm : len ≤ 140737488355328) (hd : a = none → cap = 0) (ho : Off a g) :
    Calls Try.prog 65 #[.pointer (some ⟨g, 0, none⟩)] w fun e w' => e = .returned (.int .i64 (val (tk zs st 2))) ∧ Hid (RSt w' g a len cap (mv len st 2) ∧ w.grownBy w' (some g)) := by
  have H0 : Hid (RSt w g a len cap st ∧ Rd w a zs ∧ zs.length = len ∧ (a = none → cap = 0) ∧ Off a g) := ⟨hs, hr, hl, hd, ho⟩
  clear hs hr hl hd ho
  obtain ⟨st', hst⟩ : ∃ x, mv len st 2 = x := ⟨_, rfl⟩
  obtain ⟨c, htk⟩ : ∃ x, (tk zs st 2).length = x := ⟨_, rfl⟩
  have hc4 : c ≤ 2 := by have : (tk zs st (2 : Int)).length ≤ 2 := tk_len zs st 2; omega
  have hv := val_small4 (tk zs st 2) (tk_bytes zs st 2 H0.out.2.1.2) (by omega)
  have HT : Hid (mv len st 2 = st' ∧ (tk zs st 2).length = c) := ⟨hst, htk⟩
  clear hst htk
  rw [HT.out.1]
  go_enter Try.func65, Try.ntmps65
  go_wp2_with fail
  refine (move_any g a len cap zs st st' 2 c _ H0.out.1 H0.out.2.1 H0.out.2.2.1 hc hm H0.out.2.2.2.1 H0.out.2.2.2.2 HT.out.1 HT.out.2).mono ?_
  rintro e w1 ⟨ov, oc, rfl, H1⟩
  go_wp2_with fail
  refine (number_any ov c oc (tk zs st 2) _ H1.out.1 HT.out.2 (by omega)).mono ?_
  rintro e w2 ⟨rfl, rfl⟩
  go_wp2
  go_ret
  exact ⟨by simp, H1.out.2.2.1, H1.out.2.2.2⟩
theorem rleft_any (g : Nat) (a : Option Addr) (len cap : Nat) (zs : List Int) (st : Option Nat) (w : World) (hs : RSt w g a len cap st) (hr : Rd w a zs) (hl : zs.length = len) (hc : len ≤ cap) (hm : len ≤ 140737488355328) (hd : a = none → cap = 0) (ho : Off a g) :
    Calls Try.prog 64 #[.pointer (some ⟨g, 0, none⟩)] w fun e w' => e = .returned (.int .i64 (lft len st)) ∧ Hid (RSt w' g a len cap st ∧ w.grownBy w' (some g)) := by
  have H0 : Hid (RSt w g a len cap st ∧ Rd w a zs ∧ zs.length = len ∧ (a = none → cap = 0) ∧ Off a g) := ⟨hs, hr, hl, hd, ho⟩
  clear hs hr hl hd ho
  go_enter Try.func64, Try.ntmps64
  go_wp2_with fail
  refine (move_any g a len cap zs st st 0 _ _ H0.out.1 H0.out.2.1 H0.out.2.2.1 hc hm H0.out.2.2.2.1 H0.out.2.2.2.2 (mv_zero len st H0.out.1.le) rfl).mono ?_
  rintro e w1 ⟨ov, oc, rfl, H1⟩
  go_wp2
  go_ret
  exact ⟨rfl, H1.out.2.2.1, H1.out.2.2.2⟩
set_option maxRecDepth 100000 in
set_option maxHeartbeats 400000 in
theorem new_none (w : World) :
    Calls Try.prog 63 #[.slice none 0 0] w fun e w' => ∃ gr a' ca, e = .returned (.pointer (some ⟨gr, 0, none⟩)) ∧ Hid (w.heap.size ≤ gr ∧ RBlk w' gr (.slice a' 0 ca) 0 false ∧ Rd w' a' [] ∧ 0 ≤ ca ∧ (a' = none → ca = 0) ∧ Off a' gr ∧ (∀ y o, a' = some ⟨y, o, none⟩ → w.heap.size ≤ y ∧ y < w'.heap.size) ∧ Below w.heap.size w w') := by
  go_enter Try.func63, Try.ntmps63
  go_wp2_with fail
  refine (clone_none _).mono ?_
  rintro e w1 ⟨rfl, rfl⟩
  go_wp2
  go_ret
  have hnb := new_below w1 (.cells #[.pointer (some ⟨w1.heap.size, 0, none⟩), .slice none 0 0, .int .i64 0, .bool false] 116)
  exact ⟨w1.heap.size, none, 0, rfl, Nat.le_refl _, heap_alloc_new _ _, ⟨.inl rfl, by simp⟩, Nat.le_refl _, fun _ => rfl, (by rintro _ _ ⟨⟩), (by rintro _ _ ⟨⟩), hnb⟩
end Go.Proofs.Ytgeoadkcmbageaa
namespace Go.Proofs.Ytgeoadkcmbageaa
open Go.ChangeShapes Go.WideShapes Go.ChangeAt Go.RowKit
set_option linter.unusedVariables false
set_option linter.unusedSimpArgs false
theorem Own.mono {B B' : Nat} {w : World} {v : Value} {n : Nat} {zs : List Int} (h : Own B w v n zs) (hb : B' ≤ B) : Own B' w v n zs := by
  rcases h with h | ⟨g, h1, h2, h3⟩
  · exact .inl h
  · exact .inr ⟨g, h1, by omega, h3⟩
end Go.Proofs.Ytgeoadkcmbageaa
namespace Go.Proofs.Ytgeoadkcmbageaa
open Go.ChangeShapes Go.WideShapes Go.ChangeAt Go.RowKit
set_option linter.unusedVariables false
set_option linter.unusedSimpArgs false
/-- Data's box. -/
def DBlk (w : World) (D : Nat) (x : DA) : Prop := w.heap[D]? = some (.cells #[.slice x.p1.a x.p1.n x.p1.c, .slice x.p2.a x.p2.n x.p2.c, .slice x.p3.a x.p3.n x.p3.c, .slice x.p4.a x.p4.n x.p4.c] 35 (0, 0))
theorem DBlk.lt {w : World} {D : Nat} {x : DA} (h : DBlk w D x) : D < w.heap.size := (Array.getElem?_eq_some_iff.1 h).1
theorem DBlk.same {w w' : World} {D : Nat} {x : DA} (h : DBlk w D x) (hb : w'.heap[D]? = w.heap[D]?) : DBlk w' D x := hb.trans h
theorem DBlk.box {w : World} {D : Nat} {x : DA} (h : DBlk w D x) : DBox w D x := by
  have h' : w.heap[D]? = _ := h
  refine ⟨?_, ?_, ?_, ?_, h.lt⟩ <;> simp [World.cell?, h']
theorem DBlk.fz {w : World} {D : Nat} {x : DA} (h : DBlk w D x) (i : Nat) : w.frozen? ⟨D, i, none⟩ = false := by
  have h' : w.heap[D]? = _ := h
  simp [World.frozen?, h']
theorem DBlk.set0 {w : World} {D : Nat} {x : DA} (h : DBlk w D x) (s : Sl) : DBlk (w.setCell ⟨D, 0, none⟩ (.slice s.a s.n s.c)) D ⟨s, x.p2, x.p3, x.p4⟩ := (heap_set h 0 _).trans (by simp)
theorem tyNs : ElemTy Try.prog 31 26 (.slice none 0 0) 24 := ⟨Try.underlying31, by kernel_rfl, rfl⟩
end Go.Proofs.Ytgeoadkcmbageaa
namespace Go.Proofs.Ytgeoadkcmbageaa
open Go.ChangeShapes Go.WideShapes Go.ChangeAt Go.RowKit
set_option linter.unusedVariables false
set_option linter.unusedSimpArgs false
/-- No data. -/
abbrev nilDA : DA := ⟨⟨none, 0, 0⟩, ⟨none, 0, 0⟩, ⟨none, 0, 0⟩, ⟨none, 0, 0⟩⟩
theorem own_brd {B : Nat} {w : World} {s : Sl} {zs ys : List Int} (h : Own B w (.slice s.a s.n s.c) zs.length ys) (ht : ys.take zs.length = zs) : BRd w s zs := by
  obtain ⟨sa, sn, sc⟩ := s
  obtain ⟨ao, e, hoa⟩ := h.addr
  injection e with e1 e2 e3
  simp only at e1 e2 e3
  subst e1 e2 e3
  have hrd := hoa.rdTake zs.length
  rw [ht] at hrd
  refine ⟨hrd, rfl, ?_, ?_⟩
  · rcases h with ⟨_, h0, h1⟩ | ⟨g, _, _, _, h1, h2⟩
    · subst h1; simp [h0]
    · exact ⟨h1, by simp only [maxLen] at h2; exact h2⟩
  · intro hn
    rcases h with ⟨_, _, h1⟩ | ⟨g, e, _⟩
    · subst h1; rfl
    · simp only at hn e; rw [hn] at e; cases e
/-- Numbers of one's own. -/
def UOwn (B : Nat) (w : World) (s : Sl) (us : List Nat) : Prop := ∃ xs, OwnV B w 30 (.slice s.a s.n s.c) us.length xs ∧ xs.take us.length = uv us ∧ (∀ u ∈ us, u ≤ 4294967295) ∧ ∀ v ∈ xs, ∃ z : Int, v = .int .u32 z ∧ 0 ≤ z ∧ z ≤ 4294967295
/-- Bytes of one's own. -/
def BOwn (B : Nat) (w : World) (s : Sl) (zs : List Int) : Prop := ∃ ys, Own B w (.slice s.a s.n s.c) zs.length ys ∧ ys.take zs.length = zs
theorem UOwn.keep {B : Nat} {w w' : World} {s : Sl} {us : List Nat} (h : UOwn B w s us) (hb : ∀ j, B ≤ j → j < w.heap.size → w'.heap[j]? = w.heap[j]?) : UOwn B w' s us := by
  obtain ⟨xs, h1, h2⟩ := h
  exact ⟨xs, h1.keep (fun j e hj => hb j (h1.lt j e) hj), h2⟩
theorem own_keep2 {B : Nat} {w w' : World} {v : Value} {n : Nat} {zs : List Int} (h : Own B w v n zs) (hb : ∀ j, B ≤ j → j < w.heap.size → w'.heap[j]? = w.heap[j]?) : Own B w' v n zs := by
  rcases h with h | ⟨g, h1, h2, h3, h4⟩
  · exact .inl h
  · exact .inr ⟨g, h1, h2, h3.same (hb g h2 h3.lt), h4⟩
theorem BOwn.keep {B : Nat} {w w' : World} {s : Sl} {zs : List Int} (h : BOwn B w s zs) (hb : ∀ j, B ≤ j → j < w.heap.size → w'.heap[j]? = w.heap[j]?) : BOwn B w' s zs := by
  obtain ⟨ys, h1, h2⟩ := h
  exact ⟨ys, own_keep2 h1 hb, h2⟩
theorem UOwn.rd {B : Nat} {w : World} {s : Sl} {us : List Nat} (h : UOwn B w s us) : URd w s us := by
  obtain ⟨xs, h1, h2, h3⟩ := h
  obtain ⟨sa, sn, sc⟩ := s
  obtain ⟨ao, e, hnil⟩ := h1.shape
  have hle := h1.le
  injection e with e1 e2 e3
  simp only at e1 e2 e3
  subst e1 e2 e3
  have hrd := h1.rd us.length
  rw [h2] at hrd
  exact ⟨hrd, rfl, ⟨hle.1, by have := hle.2; simp only [maxLen] at this; exact this⟩, hnil, h3.1⟩
theorem BOwn.rd {B : Nat} {w : World} {s : Sl} {zs : List Int} (h : BOwn B w s zs) : BRd w s zs := by
  obtain ⟨ys, h1, h2⟩ := h
  exact own_brd h1 h2
end Go.Proofs.Ytgeoadkcmbageaa
namespace Go.Proofs.Ytgeoadkcmbageaa
open Go.ChangeShapes Go.WideShapes Go.ChangeAt Go.RowKit
set_option linter.unusedVariables false
set_option linter.unusedSimpArgs false
theorem step_append_row {P : Program} {t e : TypeId} {z : Value} {bt : Nat} (T : ElemTy P t e z bt) {w : World} {ops : Array Oper} {o : Oper} {a : Act} {K : Act → World → Prop} {Q : Exit → Act → World → Prop} {E : Prop} (hgd : o.guard = none) (s x : Operand) (tx : TypeId)
    (ho : o.op = .call { callee := .builtin .append, args := #[s, x], argTypes := #[t, tx] }) (B : Nat) (v : Value) (n : Nat) (xs : List Value) (hs : a.eval s = v) (hown : OwnV B w e v n xs)
    (xv : Value) (m : Nat) (news : List Value) (hx : a.eval x = xv) (hsrc : Src P 1 tx xv m news w) (hb : (n + m) * bt ≤ 140737488355328) (h63 : n + m ≤ maxLen) (hB : B ≤ w.heap.size)
    (h : ∀ v' w' xs', Hid (OwnV B w' e v' (n + m) xs') → Hid (xs'.take (n + m) = xs.take n ++ news) → Hid (w.grownBy w' v.ownBlock) → Hid (∀ Q : Value → Prop, Q z → (∀ u ∈ xs, Q u) → (∀ u ∈ news, Q u) → ∀ u ∈ xs', Q u) → K (a.put o.dst v') w') :
    if Region.wanted o (yielded ops a.tmps) = true then Oper.wp P o a w K Q else E := by
  have hw : Region.wanted o (yielded ops a.tmps) = true := by simp [Region.wanted, hgd]
  rw [if_pos hw]
  obtain ⟨v', w', xs', hrun, h2, h3, h4, h5⟩ := run_append_row T w B tx o.type v n xs hown xv m news hsrc hb h63 hB
  unfold Oper.wp execOp
  simp only [ho, resolve, invoke, builtin, Sem.run_bind, Sem.run_pure, Result.andThen_ok, List.map_toArray, List.map_cons, List.map_nil, hs, hx, hrun]
  exact h v' w' xs' h2 h3 h4 h5.1
theorem tyU : ElemTy Try.prog 32 30 (.int .u32 0) 4 := ⟨Try.underlying32, by kernel_rfl, rfl⟩
end Go.Proofs.Ytgeoadkcmbageaa
namespace Go.Proofs.Ytgeoadkcmbageaa
open Go.ChangeShapes Go.WideShapes Go.ChangeAt Go.RowKit
set_option linter.unusedVariables false
set_option linter.unusedSimpArgs false
theorem UOwn.stays {B : Nat} {w w' : World} {s : Sl} {us : List Nat} (h : UOwn B w s us) (hb : Below w.heap.size w w') : UOwn B w' s us := h.keep fun j _ h2 => hb.block j h2
theorem BOwn.stays {B : Nat} {w w' : World} {s : Sl} {zs : List Int} (h : BOwn B w s zs) (hb : Below w.heap.size w w') : BOwn B w' s zs := h.keep fun j _ h2 => hb.block j h2
end Go.Proofs.Ytgeoadkcmbageaa
namespace Go.Proofs.Ytgeoadkcmbageaa
open Go.ChangeShapes Go.WideShapes Go.ChangeAt Go.RowKit
set_option linter.unusedVariables false
set_option linter.unusedSimpArgs false
theorem one_n (w : World) (s : Sl) : RdV (w.alloc (.cells #[.slice s.a s.n s.c] 26)) (some ⟨w.heap.size, 0, none⟩) [.slice s.a s.n s.c] := by
  refine .inr ⟨w.heap.size, 0, rfl, by simp, fun i hi => ?_⟩
  have : i = 0 := by simp at hi; omega
  subst this
  unfold World.cell?
  rw [heap_alloc_new]
  rfl
end Go.Proofs.Ytgeoadkcmbageaa
namespace Go.Proofs.Ytgeoadkcmbageaa
open Go.ChangeShapes Go.WideShapes Go.ChangeAt Go.RowKit
set_option linter.unusedVariables false
set_option linter.unusedSimpArgs false
theorem UOwn.keepTy {B : Nat} {w w' : World} {s : Sl} {us : List Nat} (h : UOwn B w s us) (hb : ∀ j, B ≤ j → j < w.heap.size → (∃ zs, BlkV w j 30 zs) → w'.heap[j]? = w.heap[j]?) : UOwn B w' s us := by
  obtain ⟨xs, h1, h2, h3⟩ := h
  refine ⟨xs, ?_, h2, h3⟩
  rcases h1 with h1 | ⟨g, e, hg, hblk, hn⟩
  · exact .inl h1
  · exact .inr ⟨g, e, hg, hblk.same (hb g hg hblk.lt ⟨_, hblk⟩), hn⟩
theorem blk_ty {w : World} {j : Nat} {t1 t2 : TypeId} {xs ys : List Value} (h1 : BlkV w j t1 xs) (h2 : BlkV w j t2 ys) : t1 = t2 := by
  have hh : w.heap[j]? = some (.cells xs.toArray t1 (0, 0)) := h1
  have hh' : w.heap[j]? = some (.cells ys.toArray t2 (0, 0)) := h2
  rw [hh] at hh'
  injection hh' with hh'
  injection hh'
end Go.Proofs.Ytgeoadkcmbageaa
namespace Go.Proofs.Ytgeoadkcmbageaa
open Go.ChangeShapes Go.WideShapes Go.ChangeAt Go.RowKit
set_option linter.unusedVariables false
set_option linter.unusedSimpArgs false
theorem UOwn.mono {B B' : Nat} {w : World} {s : Sl} {us : List Nat} (h : UOwn B w s us) (hB : B' ≤ B) : UOwn B' w s us := by
  obtain ⟨xs, h1, h2⟩ := h
  exact ⟨xs, h1.mono hB, h2⟩
theorem BOwn.mono {B B' : Nat} {w : World} {s : Sl} {zs : List Int} (h : BOwn B w s zs) (hB : B' ≤ B) : BOwn B' w s zs := by
  obtain ⟨xs, h1, h2⟩ := h
  exact ⟨xs, own_mono h1 hB, h2⟩
theorem UOwn.offTy {B : Nat} {w w' : World} {s : Sl} {us : List Nat} (h : UOwn B w s us) (hg : ∃ o, w.grownBy w' o ∧ ∀ j, o = some j → B ≤ j ∧ ∃ zs, BlkV w j 26 zs) : UOwn B w' s us := by
  obtain ⟨o, h1, h2⟩ := hg
  refine h.keepTy fun j _ hj ⟨zs, hz⟩ => h1.block j hj (fun e => ?_)
  obtain ⟨_, zs', hz'⟩ := h2 j e.symm
  exact absurd (blk_ty hz hz') (by decide)
theorem DBlk.offTy {W W' : World} {D B : Nat} {x : DA} (h : DBlk W D x) (hg : ∃ o, W.grownBy W' o ∧ ∀ j, o = some j → B ≤ j ∧ ∃ zs, BlkV W j 26 zs) : DBlk W' D x := by
  obtain ⟨o, h1, h2⟩ := hg
  refine h.same (h1.block D h.lt (fun e => ?_))
  obtain ⟨_, zs', hz'⟩ := h2 D e.symm
  have hh : W.heap[D]? = _ := h
  have hh' : W.heap[D]? = some (.cells zs'.toArray 26 (0, 0)) := hz'
  rw [hh] at hh'
  injection hh' with hh'
  injection hh' with _ hh'
  exact absurd hh' (by decide)
theorem dblk_new (W : World) : DBlk (W.alloc (.cells #[.slice none 0 0, .slice none 0 0, .slice none 0 0, .slice none 0 0] 35)) W.heap.size nilDA := heap_alloc_new _ _
theorem DBlk.ne {W : World} {D j : Nat} {x : DA} {t : TypeId} {zs : List Value} (h : DBlk W D x) (hz : BlkV W j t zs) (ht : t ≠ 35) : j ≠ D := by
  rintro rfl
  have hh : W.heap[j]? = _ := h
  have hh' : W.heap[j]? = some (.cells zs.toArray t (0, 0)) := hz
  rw [hh] at hh'
  injection hh' with hh'
  injection hh' with _ hh'
  exact ht hh'.symm
/-- Four cells of a box are written. -/
abbrev set4 (W : World) (D : Nat) (x : DA) : World := (((W.setCell ⟨D, 0, none⟩ (.slice x.p1.a x.p1.n x.p1.c)).setCell ⟨D, 1, none⟩ (.slice x.p2.a x.p2.n x.p2.c)).setCell ⟨D, 2, none⟩ (.slice x.p3.a x.p3.n x.p3.c)).setCell ⟨D, 3, none⟩ (.slice x.p4.a x.p4.n x.p4.c)
theorem set4_blk {W : World} {D : Nat} {y : DA} (h : DBlk W D y) (x : DA) : DBlk (set4 W D x) D x := (heap_set (heap_set (heap_set (heap_set h 0 _) 1 _) 2 _) 3 _).trans (by simp)
theorem set4_off (W : World) (D : Nat) (x : DA) (j : Nat) (hj : j ≠ D) : (set4 W D x).heap[j]? = W.heap[j]? :=
  (((Below.heap_setCell _ _ _ j hj).trans (Below.heap_setCell _ _ _ j hj)).trans (Below.heap_setCell _ _ _ j hj)).trans (Below.heap_setCell _ _ _ j hj)
theorem BOwn.keepD {B : Nat} {w w' : World} {s : Sl} {zs : List Int} {D : Nat} {x : DA} (h : BOwn B w s zs) (hD : DBlk w D x) (hb : ∀ j, j ≠ D → w'.heap[j]? = w.heap[j]?) : BOwn B w' s zs := by
  obtain ⟨ys, h1, h2⟩ := h
  refine ⟨ys, ?_, h2⟩
  rcases h1 with h1 | ⟨g, e1, e2, e3, e4⟩
  · exact .inl h1
  · refine .inr ⟨g, e1, e2, e3.same (hb g ?_), e4⟩
    rintro rfl
    have hh : w.heap[g]? = _ := hD
    have hh' := e3.1
    rw [hh] at hh'
    injection hh' with hh'
    injection hh' with _ hh'
    exact absurd hh' (by decide)
end Go.Proofs.Ytgeoadkcmbageaa
namespace Go.Proofs.Ytgeoadkcmbageaa
open Go.ChangeShapes Go.WideShapes Go.ChangeAt Go.RowKit
set_option linter.unusedVariables false
set_option linter.unusedSimpArgs false
theorem ret4 {w W : World} {b : Nat} {y : DA} (h : DBlk W b y) (hb : Below w.heap.size w W) (hw : w.heap.size ≤ b) (x : DA) : DBlk (set4 W b x) b x ∧ Below w.heap.size w (set4 W b x) :=
  ⟨set4_blk h x, (((hb.setCell (p := ⟨b, 0, none⟩) hw _).setCell (p := ⟨b, 1, none⟩) hw _).setCell (p := ⟨b, 2, none⟩) hw _).setCell (p := ⟨b, 3, none⟩) hw _⟩
end Go.Proofs.Ytgeoadkcmbageaa
namespace Go.Proofs.Ytgeoadkcmbageaa
open Go.ChangeShapes Go.WideShapes Go.ChangeAt Go.RowKit
set_option linter.unusedVariables false
set_option linter.unusedSimpArgs false
theorem al_below {w W : World} {B : Nat} {o : Obj} (h : Below B w W) (hB : B ≤ w.heap.size) : Below B w (W.alloc o) := h.alloc (Nat.le_trans hB h.size) _
theorem BOwn.offTy {B : Nat} {w w' : World} {s : Sl} {zs : List Int} (h : BOwn B w s zs) (hg : ∃ o, w.grownBy w' o ∧ ∀ j, o = some j → B ≤ j ∧ ∃ zs, BlkV w j 26 zs) : BOwn B w' s zs := by
  obtain ⟨o, h1, h2⟩ := hg
  obtain ⟨ys, h3, h4⟩ := h
  refine ⟨ys, ?_, h4⟩
  rcases h3 with h3 | ⟨g, e1, e2, e3, e4⟩
  · exact .inl h3
  · refine .inr ⟨g, e1, e2, e3.same (h1.block g e3.lt (fun e => ?_)), e4⟩
    obtain ⟨_, zs', hz'⟩ := h2 g e.symm
    have hh := e3.1
    have hh' : w.heap[g]? = some (.cells zs'.toArray 26 (0, 0)) := hz'
    rw [hh] at hh'
    injection hh' with hh'
    injection hh' with _ hh'
    exact absurd hh' (by decide)
end Go.Proofs.Ytgeoadkcmbageaa
namespace Go.Proofs.Ytgeoadkcmbageaa
open Go.ChangeShapes Go.WideShapes Go.ChangeAt Go.RowKit
set_option linter.unusedVariables false
set_option linter.unusedSimpArgs false
/-- A name of one's own. -/
def Owx1 (B : Nat) (w : World) (s : Sl) (nm : List ByteArray) : Prop := ∃ ys, OwnT B w (.slice s.a s.n s.c) nm.length ys 9223372036854775807 ∧ ys.take nm.length = nm
theorem Owx1.keep {B : Nat} {w w' : World} {s : Sl} {nm : List ByteArray} (h : Owx1 B w s nm) (hb : ∀ j, B ≤ j → j < w.heap.size → (∃ zs, BlkV w j 9 zs) → w'.heap[j]? = w.heap[j]?) : Owx1 B w' s nm := by
  obtain ⟨ys, ⟨h1, h2⟩, h3⟩ := h
  refine ⟨ys, ⟨?_, h2⟩, h3⟩
  rcases h1 with h1 | ⟨g, e, hg, hblk, hn⟩
  · exact .inl h1
  · exact .inr ⟨g, e, hg, hblk.same (hb g hg hblk.lt ⟨_, hblk⟩), hn⟩
theorem Owx1.rd {B : Nat} {w : World} {s : Sl} {nm : List ByteArray} (h : Owx1 B w s nm) : TRd w s nm := by
  obtain ⟨ys, h1, h3⟩ := h
  obtain ⟨ao, e, hnil⟩ := h1.shape
  have hle := h1.le
  obtain ⟨sa, sn, sc⟩ := s
  simp only at e h1
  injection e with e1 e2 e3
  subst e1 e2 e3
  have hrd := h1.rd nm.length
  rw [h3] at hrd
  refine ⟨hrd, rfl, ⟨hle.1, by have := hle.2; simp only [maxLen] at this; exact this⟩, hnil, fun x hx => ?_⟩
  have : x ∈ ys := by rw [← h3] at hx; exact List.mem_of_mem_take hx
  have := h1.2 x this
  omega
/-- A list of names of one's own, from the block B on. -/
def OwxN (B : Nat) (w : World) (v : Value) (nss : List (List ByteArray)) : Prop :=
  ∃ xs, OwnV B w 26 v nss.length xs ∧ ∀ i (hi : i < nss.length), ∃ s : Sl, xs[i]? = some (.slice s.a s.n s.c) ∧ Owx1 B w s nss[i]
theorem OwxN.nil (B : Nat) (w : World) : OwxN B w (.slice none 0 0) [] := ⟨[], OwnV.nil B w 26, fun i hi => absurd hi (by simp)⟩
theorem OwxN.keep {B : Nat} {w w' : World} {v : Value} {nss : List (List ByteArray)} (h : OwxN B w v nss) (hb : ∀ j, B ≤ j → j < w.heap.size → w'.heap[j]? = w.heap[j]?) : OwxN B w' v nss := by
  obtain ⟨xs, h1, h2⟩ := h
  refine ⟨xs, h1.keep (fun j e hj => hb j (h1.lt j e) hj), fun i hi => ?_⟩
  obtain ⟨s, e1, e2⟩ := h2 i hi
  exact ⟨s, e1, e2.keep (fun j h1 h2 _ => hb j h1 h2)⟩
theorem OwxN.rd {B : Nat} {w : World} {s : Sl} {nss : List (List ByteArray)} (h : OwxN B w (.slice s.a s.n s.c) nss) : NRd w s nss := by
  obtain ⟨a, n, c⟩ := s
  obtain ⟨xs, h1, h2⟩ := h
  rcases h1 with ⟨e, e0, rfl⟩ | ⟨g, e, hg, hblk, hn, hm⟩
  · injection e with e1 e2 e3
    simp only at e1 e2 e3
    subst e1 e2 e3
    exact ⟨.inl (List.eq_nil_of_length_eq_zero e0), e0, ⟨Nat.le_refl _, Nat.zero_le _⟩, fun _ => rfl⟩
  · injection e with e1 e2 e3
    simp only at e1 e2 e3
    subst e1 e2 e3
    refine ⟨.inr ⟨g, 0, rfl, hblk.lt, fun i hi => ?_⟩, rfl, ⟨hn, by simp only [maxLen] at hm; exact hm⟩, by simp⟩
    obtain ⟨s, e1, e2⟩ := h2 i hi
    refine ⟨s, ?_, e2.rd⟩
    rw [Nat.zero_add, hblk.cell i (by omega)]
    rw [List.getElem?_eq_getElem (by omega)] at e1
    exact e1
/-- Data of one's own. -/
def DOwx (B : Nat) (w : World) (x : DA) (d : Dat) : Prop := OwxN B w (.slice x.p1.a x.p1.n x.p1.c) d.ns ∧ UOwn B w x.p2 d.us ∧ Owx1 B w x.p3 d.ts ∧ BOwn B w x.p4 d.raw
theorem DOwx.keep {B : Nat} {w w' : World} {x : DA} {d : Dat} (h : DOwx B w x d) (hb : ∀ j, B ≤ j → j < w.heap.size → w'.heap[j]? = w.heap[j]?) : DOwx B w' x d :=
  ⟨h.1.keep hb, h.2.1.keep hb, h.2.2.1.keep (fun j h1 h2 _ => hb j h1 h2), h.2.2.2.keep hb⟩
theorem DOwx.rd {B : Nat} {w : World} {x : DA} {d : Dat} (h : DOwx B w x d) : DRd w x d := ⟨h.1.rd, h.2.1.rd, h.2.2.1.rd, h.2.2.2.rd⟩
theorem Owx1.stays {B : Nat} {w w' : World} {s : Sl} {nm : List ByteArray} (h : Owx1 B w s nm) (hb : Below w.heap.size w w') : Owx1 B w' s nm := h.keep fun j _ h2 _ => hb.block j h2
theorem Owx1.mono {B B' : Nat} {w : World} {s : Sl} {nm : List ByteArray} (h : Owx1 B w s nm) (hB : B' ≤ B) : Owx1 B' w s nm := by
  obtain ⟨ys, h1, h2⟩ := h
  exact ⟨ys, h1.mono hB, h2⟩
theorem OwxN.mono {B B' : Nat} {w : World} {v : Value} {nss : List (List ByteArray)} (h : OwxN B w v nss) (hB : B' ≤ B) : OwxN B' w v nss := by
  obtain ⟨xs, h1, h2⟩ := h
  refine ⟨xs, h1.mono hB, fun i hi => ?_⟩
  obtain ⟨s, e1, e2⟩ := h2 i hi
  exact ⟨s, e1, e2.mono hB⟩
theorem Owx1.offTy {B : Nat} {w w' : World} {s : Sl} {us : List ByteArray} (h : Owx1 B w s us) (hg : ∃ o, w.grownBy w' o ∧ ∀ j, o = some j → B ≤ j ∧ ∃ zs, BlkV w j 26 zs) : Owx1 B w' s us := by
  obtain ⟨o, h1, h2⟩ := hg
  refine h.keep fun j _ hj ⟨zs, hz⟩ => h1.block j hj (fun e => ?_)
  obtain ⟨_, zs', hz'⟩ := h2 j e.symm
  exact absurd (blk_ty hz hz') (by decide)
theorem OwxN.keepTy {B : Nat} {w w' : World} {v : Value} {nss : List (List ByteArray)} (h : OwxN B w v nss) (hb : ∀ j, B ≤ j → j < w.heap.size → (∃ t zs, BlkV w j t zs ∧ (t = 26 ∨ t = 9)) → w'.heap[j]? = w.heap[j]?) : OwxN B w' v nss := by
  obtain ⟨xs, h1, h2⟩ := h
  refine ⟨xs, ?_, fun i hi => ?_⟩
  · rcases h1 with h1 | ⟨g, e, hg, hblk, hn⟩
    · exact .inl h1
    · exact .inr ⟨g, e, hg, hblk.same (hb g hg hblk.lt ⟨_, _, hblk, .inl rfl⟩), hn⟩
  · obtain ⟨s, e1, e2⟩ := h2 i hi
    exact ⟨s, e1, e2.keep (fun j h1 h2 ⟨zs, hz⟩ => hb j h1 h2 ⟨_, zs, hz, .inr rfl⟩)⟩
theorem DOwx.mono {B B' : Nat} {w : World} {x : DA} {d : Dat} (h : DOwx B w x d) (hB : B' ≤ B) : DOwx B' w x d := ⟨h.1.mono hB, h.2.1.mono hB, h.2.2.1.mono hB, h.2.2.2.mono hB⟩
theorem DOwx.ret4 {B B' : Nat} {W : World} {b : Nat} {x : DA} {d : Dat} (h : DOwx B W x d) (hb : b < B) (hB : B' ≤ B) : DOwx B' (set4 W b x) x d := (h.keep (fun j hj _ => set4_off W b x j (by omega))).mono hB
theorem DOwx.stays {B : Nat} {w w' : World} {x : DA} {d : Dat} (h : DOwx B w x d) (hb : Below w.heap.size w w') : DOwx B w' x d := h.keep fun j _ hj => hb.block j hj
/-- Three lists copied, and a box for them. -/
structure CqS (W1 W : World) (D : Nat) (tu tt tb : Sl) (d : Dat) : Prop where
  u : UOwn W1.heap.size W tu d.us
  t : Owx1 W1.heap.size W tt d.ts
  b : BOwn W1.heap.size W tb d.raw
  blk : DBlk W D ⟨⟨none, 0, 0⟩, tu, tt, tb⟩
  bel : Below W1.heap.size W1 W
  low : W1.heap.size ≤ D
theorem cqs_new {W1 W : World} {tu tt tb : Sl} {d : Dat} (h1 : UOwn W1.heap.size W tu d.us) (h2 : Owx1 W1.heap.size W tt d.ts) (h3 : BOwn W1.heap.size W tb d.raw) (hb : Below W1.heap.size W1 W) :
    CqS W1 (W.alloc (.cells #[.slice none 0 0, .slice tu.a tu.n tu.c, .slice tt.a tt.n tt.c, .slice tb.a tb.n tb.c] 35)) W.heap.size tu tt tb d := by
  have hn := new_below W (.cells #[.slice none 0 0, .slice tu.a tu.n tu.c, .slice tt.a tt.n tt.c, .slice tb.a tb.n tb.c] 35)
  exact ⟨h1.stays hn, h2.stays hn, h3.stays hn, heap_alloc_new _ _, hb.trans (hn.mono hb.size), hb.size⟩
theorem cqs_set {W1 W : World} {D : Nat} {y : DA} {tu tt tb : Sl} {d : Dat} (h1 : UOwn W1.heap.size W tu d.us) (h2 : Owx1 W1.heap.size W tt d.ts) (h3 : BOwn W1.heap.size W tb d.raw) (hb : Below W1.heap.size W1 W) (hD : DBlk W D y) (hl : W1.heap.size ≤ D) :
    CqS W1 ((((W.setCell ⟨D, 0, none⟩ (.slice none 0 0)).setCell ⟨D, 1, none⟩ (.slice tu.a tu.n tu.c)).setCell ⟨D, 2, none⟩ (.slice tt.a tt.n tt.c)).setCell ⟨D, 3, none⟩ (.slice tb.a tb.n tb.c)) D tu tt tb d := by
  have e := set4_off W D ⟨⟨none, 0, 0⟩, tu, tt, tb⟩
  refine ⟨h1.keepTy ?_, h2.keep ?_, h3.keepD hD e, set4_blk hD ⟨⟨none, 0, 0⟩, tu, tt, tb⟩, ?_, hl⟩
  · rintro j _ _ ⟨zs, hz⟩
    exact e j (hD.ne hz (by decide))
  · rintro j _ _ ⟨zs, hz⟩
    exact e j (hD.ne hz (by decide))
  · exact (((hb.setCell (p := ⟨D, 0, none⟩) hl _).setCell (p := ⟨D, 1, none⟩) hl _).setCell (p := ⟨D, 2, none⟩) hl _).setCell (p := ⟨D, 3, none⟩) hl _
/-- A name appended, as a step of a region. -/
theorem sq_n1 {w : World} {ops : Array Oper} {o : Oper} {a : Act} {K : Act → World → Prop} {Q : Exit → Act → World → Prop} {E : Prop} (hgd : o.guard = none) (s x : Operand)
    (ho : o.op = .call { callee := .builtin .append, args := #[s, x], argTypes := #[31, 31] }) (B : Nat) (s1 : Sl) (nss : List (List ByteArray)) (hs : a.eval s = .slice s1.a s1.n s1.c) (hown : OwxN B w (.slice s1.a s1.n s1.c) nss)
    (ao : Addr) (hx : a.eval x = .slice (some ao) 1 1) (t : Sl) (nm : List ByteArray) (hr : RdV w (some ao) [.slice t.a t.n t.c]) (ht : Owx1 B w t nm) (hn : nss.length ≤ 5860000000000) (hB : B ≤ w.heap.size)
    (h : ∀ (t' : Sl) w', Hid (OwxN B w' (.slice t'.a t'.n t'.c) (nss ++ [nm])) → Hid (∃ o, w.grownBy w' o ∧ ∀ j, o = some j → B ≤ j ∧ ∃ zs, BlkV w j 26 zs) → K (a.put o.dst (.slice t'.a t'.n t'.c)) w') :
    if Region.wanted o (yielded ops a.tmps) = true then Oper.wp Try.prog o a w K Q else E := by
  obtain ⟨xs, h1, h2⟩ := hown
  refine step_append_row tyNs hgd s x 31 ho B _ nss.length xs hs h1 _ 1 [.slice t.a t.n t.c] hx (src_of Try.underlying31 hr rfl (by intro u hu; simp at hu; subst hu; rfl)) (by omega) (by simp only [maxLen]; omega) hB ?_
  intro v' w' xs' q1 q2 q3 q4
  obtain ⟨ao', rfl, _⟩ := q1.out.shape
  have hle := q1.out.le
  have hB1 : ∀ j, Value.ownBlock (.slice s1.a s1.n s1.c) = some j → B ≤ j ∧ ∃ zs, BlkV w j 26 zs := by
    intro j hj
    refine ⟨h1.lt j hj, ?_⟩
    rcases h1 with ⟨e3, _⟩ | ⟨g, e3, _, hblk, _⟩
    · rw [e3] at hj; cases hj
    · rw [e3] at hj
      have e4 : g = j := (Option.some.inj hj)
      subst e4
      exact ⟨_, hblk⟩
  have hkb : ∀ j, B ≤ j → j < w.heap.size → (∃ zs, BlkV w j 9 zs) → w'.heap[j]? = w.heap[j]? := by
    rintro j _ hj ⟨zs, hz⟩
    refine q3.out.block j hj (fun e => ?_)
    obtain ⟨_, zs', hz'⟩ := hB1 j e.symm
    exact absurd (blk_ty hz hz') (by decide)
  have hx' : xs'.take (nss.length + 1) = xs.take nss.length ++ [.slice t.a t.n t.c] := q2.out
  have hl : (xs.take nss.length).length = nss.length := by have := h1.le.1; rw [List.length_take]; omega
  refine h ⟨ao', nss.length + 1, xs'.length⟩ w' ⟨xs', by simpa using q1.out, fun i hi => ?_⟩ ⟨_, q3.out, hB1⟩
  rw [List.length_append, List.length_singleton] at hi
  by_cases hlt : i < nss.length
  · obtain ⟨s', e1, e2⟩ := h2 i hlt
    refine ⟨s', ?_, ?_⟩
    · have h3 : (xs'.take (nss.length + 1))[i]? = (xs.take nss.length ++ [.slice t.a t.n t.c])[i]? := by rw [hx']
      rw [List.getElem?_take_of_lt (by omega), List.getElem?_append_left (by omega), List.getElem?_take_of_lt hlt, e1] at h3
      exact h3
    · rw [List.getElem_append_left hlt]
      exact e2.keep hkb
  · have hie : i = nss.length := by omega
    subst hie
    refine ⟨t, ?_, ?_⟩
    · have h3 : (xs'.take (nss.length + 1))[nss.length]? = (xs.take nss.length ++ [.slice t.a t.n t.c])[nss.length]? := by rw [hx']
      rw [List.getElem?_take_of_lt (by omega), List.getElem?_append_right (by omega), hl] at h3
      simpa using h3
    · rw [List.getElem_append_right (by omega)]
      simp
      exact ht.keep hkb
/-- Copied, with some of the names. -/
structure CqN (W1 W : World) (D : Nat) (x : DA) (d : Dat) : Prop where
  own : DOwx W1.heap.size W x d
  blk : DBlk W D x
  bel : Below W1.heap.size W1 W
  low : W1.heap.size ≤ D
theorem CqS.start {W1 W : World} {D : Nat} {tu tt tb : Sl} {d : Dat} (h : CqS W1 W D tu tt tb d) : CqN W1 W D ⟨⟨none, 0, 0⟩, tu, tt, tb⟩ ⟨d.ns.take 0, d.us, d.ts, d.raw⟩ := ⟨⟨OwxN.nil _ _, h.u, h.t, h.b⟩, h.blk, h.bel, h.low⟩
theorem CqN.go {W1 W W' : World} {D : Nat} {x : DA} {d : Dat} (h : CqN W1 W D x d) (hb : Below W.heap.size W W') : CqN W1 W' D x d := ⟨h.own.stays hb, h.blk.same (hb.block D h.blk.lt), h.bel.trans (hb.mono h.bel.size), h.low⟩
theorem DOwx.set0 {B : Nat} {W : World} {D : Nat} {y x : DA} {d : Dat} (h : DOwx B W x d) (hD : DBlk W D y) (v : Value) : DOwx B (W.setCell ⟨D, 0, none⟩ v) x d := by
  have e : ∀ j, j ≠ D → (W.setCell ⟨D, 0, none⟩ v).heap[j]? = W.heap[j]? := fun j hj => Below.heap_setCell _ _ _ j hj
  refine ⟨h.1.keepTy ?_, h.2.1.keepTy ?_, h.2.2.1.keep ?_, h.2.2.2.keepD hD e⟩
  · rintro j _ _ ⟨t, zs, hz, ht⟩
    exact e j (hD.ne hz (by rcases ht with rfl | rfl <;> decide))
  · rintro j _ _ ⟨zs, hz⟩
    exact e j (hD.ne hz (by decide))
  · rintro j _ _ ⟨zs, hz⟩
    exact e j (hD.ne hz (by decide))
theorem CqN.step {W1 W W' : World} {D : Nat} {x : DA} {d : Dat} {t' : Sl} {nss : List (List ByteArray)} (h : CqN W1 W D x d) (ho : OwxN W1.heap.size W' (.slice t'.a t'.n t'.c) nss) (hg : ∃ o, W.grownBy W' o ∧ ∀ j, o = some j → W1.heap.size ≤ j ∧ ∃ zs, BlkV W j 26 zs) :
    CqN W1 (W'.setCell ⟨D, 0, none⟩ (.slice t'.a t'.n t'.c)) D ⟨t', x.p2, x.p3, x.p4⟩ ⟨nss, d.us, d.ts, d.raw⟩ := by
  have hD := h.blk.offTy hg
  have hown : DOwx W1.heap.size W' ⟨t', x.p2, x.p3, x.p4⟩ ⟨nss, d.us, d.ts, d.raw⟩ := ⟨ho, h.own.2.1.offTy hg, h.own.2.2.1.offTy hg, h.own.2.2.2.offTy hg⟩
  refine ⟨hown.set0 hD _, hD.set0 t', ?_, h.low⟩
  obtain ⟨o, g1, g2⟩ := hg
  have hb : Below W1.heap.size W1 W' := ⟨g1.os.trans h.bel.os, g1.tape.trans h.bel.tape, g1.output.trans h.bel.output, Nat.le_trans h.bel.size g1.size, fun j hj => (g1.block j (Nat.lt_of_lt_of_le hj h.bel.size) (fun e => by have := (g2 j e.symm).1; omega)).trans (h.bel.block j hj)⟩
  exact hb.setCell (p := ⟨D, 0, none⟩) h.low _
end Go.Proofs.Ytgeoadkcmbageaa
namespace Go.Proofs.Ytgeoadkcmbageaa
open Go.ChangeShapes Go.WideShapes Go.ChangeAt Go.RowKit
set_option linter.unusedVariables false
set_option linter.unusedSimpArgs false
/-- What the reach alone says of data. -/
structure Wb (d : Dat) : Prop where
  nn : d.ns.length ≤ 5860000000000
  nl : ∀ x ∈ d.ns, x.length ≤ 8796093022000
  un : d.us.length ≤ 35184372088832
  tn : d.ts.length ≤ 8796093022000
  tz : ∀ x ∈ d.ts, x.size ≤ 140737488355328
  r : d.raw.length ≤ 140737488355328
end Go.Proofs.Ytgeoadkcmbageaa
namespace Go.Proofs.Ytgeoadkcmbageaa
open Go.ChangeShapes Go.WideShapes Go.ChangeAt Go.RowKit
set_option linter.unusedVariables false
set_option linter.unusedSimpArgs false
theorem ownsRow_stays {B e k n : Nat} {v : Value} {xs : List Value} {w w' : World} (h : w.ownsRow B e k v n xs) (hb : Below w.heap.size w w') : w'.ownsRow B e k v n xs :=
  h.kept (row := none) ⟨hb.os, hb.tape, hb.output, hb.size, fun j hj _ => hb.block j hj⟩ (by cases v.ownBlock with | none => exact .inl rfl | some j => exact .inr (by simp))
theorem ownsRow_low {B B' e k n : Nat} {v : Value} {xs : List Value} {w : World} (h : w.ownsRow B e k v n xs) (hB : B' ≤ B) : w.ownsRow B' e k v n xs :=
  ⟨h.1, h.2.elim .inl (fun ⟨g, cap, cur, e, hb, r⟩ => .inr ⟨g, cap, cur, e, Nat.le_trans hB hb, r⟩)⟩
/-- A record. -/
structure Rec where
  ow : List ByteArray
  t : Nat
  cl : Nat
  tt : Nat
  d : Dat
/-- Where a record's lists are. -/
structure RA where
  o : Sl
  d : DA
def recCells (x : RA) (r : Rec) : List Value := [.slice x.o.a x.o.n x.o.c, .int .u16 r.t, .int .u16 r.cl, .int .u32 r.tt, .slice x.d.p1.a x.d.p1.n x.d.p1.c, .slice x.d.p2.a x.d.p2.n x.d.p2.c, .slice x.d.p3.a x.d.p3.n x.d.p3.c, .slice x.d.p4.a x.d.p4.n x.d.p4.c]
def cellsR (ps : List (RA × Rec)) : List Value := ps.flatMap fun p => recCells p.1 p.2
theorem cellsR_at (ps : List (RA × Rec)) (k : Nat) (h : k < ps.length) (j : Nat) (hj : j < 8) : (cellsR ps)[k * 8 + j]? = (recCells ps[k].1 ps[k].2)[j]? := by
  induction ps generalizing k with
  | nil => simp at h
  | cons p ws ih =>
    have hc : cellsR (p :: ws) = recCells p.1 p.2 ++ cellsR ws := by simp [cellsR]
    have h8 : (recCells p.1 p.2).length = 8 := rfl
    rw [hc]
    cases k with
    | zero => rw [List.getElem?_append_left (by rw [h8]; omega)]; simp
    | succ k =>
      have := ih k (by simpa using h)
      rw [List.getElem?_append_right (by rw [h8]; omega), h8, show (k + 1) * 8 + j - 8 = k * 8 + j by omega, this]
      simp
def RRd (w : World) (x : RA) (r : Rec) : Prop := TRd w x.o r.ow ∧ DRd w x.d r.d
theorem RRd.below {w w' : World} {x : RA} {r : Rec} (h : RRd w x r) (hb : Below w.heap.size w w') : RRd w' x r := ⟨h.1.below hb, h.2.below hb⟩
def ROwx (B : Nat) (w : World) (x : RA) (r : Rec) : Prop := Owx1 B w x.o r.ow ∧ DOwx B w x.d r.d
/-- A list of records that can be read: eight cells each. -/
def RdR (w : World) (a : Option Addr) (rs : List Rec) : Prop :=
  rs = [] ∨ ∃ b o, a = some ⟨b, o, none⟩ ∧ b < w.heap.size ∧ ∀ i (h : i < rs.length), ∃ x : RA, (∀ j (hj : j < 8), w.cell? ⟨b, o + i * 8 + j, none⟩ = (recCells x rs[i])[j]?) ∧ RRd w x rs[i]
theorem RdR.below {w w' : World} {a : Option Addr} {rs : List Rec} (h : RdR w a rs) (hb : Below w.heap.size w w') : RdR w' a rs := by
  rcases h with h | ⟨b, o, h1, h2, h3⟩
  · exact .inl h
  · refine .inr ⟨b, o, h1, Nat.lt_of_lt_of_le h2 hb.size, fun i hi => ?_⟩
    obtain ⟨x, e1, e5⟩ := h3 i hi
    exact ⟨x, fun j hj => (hb.cell (p := ⟨b, o + i * 8 + j, none⟩) h2).trans (e1 j hj), e5.below hb⟩
theorem RdR.at {w : World} {a : Option Addr} {rs : List Rec} (h : RdR w a rs) (i : Nat) (hi : i < rs.length) : ∃ b o, a = some ⟨b, o, none⟩ ∧ b < w.heap.size ∧ ∃ x : RA, (∀ j (hj : j < 8), w.cell? ⟨b, o + i * 8 + j, none⟩ = (recCells x rs[i])[j]?) ∧ RRd w x rs[i] := by
  rcases h with h | ⟨b, o, h1, h2, h3⟩
  · subst h; simp at hi
  · exact ⟨b, o, h1, h2, h3 i hi⟩
theorem inf69 : (Try.prog.info? 37).map (fun i => (i.zero, i.size, i.bytes)) = some (some (.agg #[.slice none 0 0, .int .u16 0, .int .u16 0, .int .u32 0, .slice none 0 0, .slice none 0 0, .slice none 0 0, .slice none 0 0]), 8, 128) := by kernel_rfl
theorem inf69' : ∃ i, Try.prog.info? 37 = some i ∧ i.zero = some (.agg #[.slice none 0 0, .int .u16 0, .int .u16 0, .int .u32 0, .slice none 0 0, .slice none 0 0, .slice none 0 0, .slice none 0 0]) ∧ i.size = 8 ∧ i.bytes = 128 := by
  obtain ⟨i, h1, h2⟩ := Option.map_eq_some_iff.1 inf69
  simp only [Prod.mk.injEq] at h2
  exact ⟨i, h1, h2.1, h2.2.1, h2.2.2⟩
theorem one_rec (w : World) (x : RA) (r : Rec) : ∀ j u, (cellsR [(x, r)])[j]? = some u → (w.alloc (.cells (recCells x r).toArray 37)).cell? ((⟨w.heap.size, 0, none⟩ : Addr).add j) = some u := by
  intro j u hu
  have ad : (⟨w.heap.size, 0, none⟩ : Addr).add j = ⟨w.heap.size, j, none⟩ := by unfold Addr.add; split <;> simp_all
  rw [ad]
  unfold World.cell?
  rw [heap_alloc_new]
  have : cellsR [(x, r)] = recCells x r := by simp [cellsR]
  rw [this] at hu
  simpa using hu
end Go.Proofs.Ytgeoadkcmbageaa
namespace Go.Proofs.Ytgeoadkcmbageaa
open Go.ChangeShapes Go.WideShapes Go.ChangeAt Go.RowKit
set_option linter.unusedVariables false
set_option linter.unusedSimpArgs false
theorem inf33 : ∃ i, Try.prog.info? 33 = some i ∧ i.zero = some (.slice none 0 0) ∧ i.size = 1 ∧ i.bytes = 24 := by
  obtain ⟨i, h1, h2⟩ := Option.map_eq_some_iff.1 (show (Try.prog.info? 33).map (fun i => (i.zero, i.size, i.bytes)) = some (some (.slice none 0 0), 1, 24) by kernel_rfl)
  simp only [Prod.mk.injEq] at h2
  exact ⟨i, h1, h2.1, h2.2.1, h2.2.2⟩
/-- A piece that can be read, and does not lie in a block. -/
def PcX (w : World) (g : Option Nat) (p : Piece) : Prop := Rd w p.1 p.2.2 ∧ (p.1 = none → p.2.1 = 0) ∧ (p.2.2 = [] ∨ ∃ b o, p.1 = some ⟨b, o, none⟩ ∧ b < w.heap.size ∧ some b ≠ g)
theorem PcX.go {w w' : World} {g g' : Option Nat} {p : Piece} (h : PcX w g p) (hg : w.grownBy w' g) (h' : ∀ b, b < w.heap.size → some b ≠ g → some b ≠ g') : PcX w' g' p := by
  obtain ⟨⟨h1, h1b⟩, h2, h3⟩ := h
  rcases h3 with h3 | ⟨b, o, e1, e2, e3⟩
  · exact ⟨⟨.inl h3, h1b⟩, h2, .inl h3⟩
  · refine ⟨⟨?_, h1b⟩, h2, .inr ⟨b, o, e1, Nat.lt_of_lt_of_le e2 hg.size, h' b e2 e3⟩⟩
    rcases h1 with h1 | ⟨b', o', g1, g2, g3⟩
    · exact .inl h1
    · rw [e1] at g1
      cases g1
      refine .inr ⟨b, o, e1, Nat.lt_of_lt_of_le e2 hg.size, fun i hi => ?_⟩
      rw [← g3 i hi]
      have := hg.block b e2 e3
      simp only [World.cell?, this]
/-- A list of pieces of one's own. -/
def PcO (B : Nat) (w : World) (v : Value) (ps : List Piece) : Prop := w.ownsRow B 33 1 v ps.length (ps.map pcV) ∧ ∀ p ∈ ps, PcX w v.ownBlock p
theorem PcO.nil (B : Nat) (w : World) : PcO B w (.slice none 0 0) [] := ⟨⟨rfl, .inl ⟨rfl, rfl⟩⟩, by simp⟩
theorem PcO.push {B : Nat} {w w' : World} {v v' : Value} {ps qs : List Piece} (h : ∀ p ∈ ps, PcX w v.ownBlock p) (hq : ∀ p ∈ qs, PcX w v.ownBlock p) (h5 : w'.ownsRow B 33 1 v' (ps.length + qs.length) (ps.map pcV ++ qs.map pcV)) (h6 : w.grownBy w' v.ownBlock) (h7 : v'.ownBlock = v.ownBlock ∨ v'.ownBlock = some w.heap.size) : PcO B w' v' (ps ++ qs) := by
  refine ⟨by rw [List.map_append, List.length_append]; exact h5, fun p hp => ?_⟩
  have hx : PcX w v.ownBlock p := by
    rcases List.mem_append.1 hp with hp | hp
    · exact h p hp
    · exact hq p hp
  refine hx.go h6 (fun b hb hne => ?_)
  rcases h7 with h7 | h7
  · rw [h7]; exact hne
  · rw [h7]; intro e; injection e with e; omega
theorem three_new (w : World) (a b c : Value) (t : TypeId) : ∀ j u, [a, b, c][j]? = some u → (w.alloc (.cells #[a, b, c] t)).cell? ((⟨w.heap.size, 0, none⟩ : Addr).add j) = some u := by
  intro j u hu
  have ad : (⟨w.heap.size, 0, none⟩ : Addr).add j = ⟨w.heap.size, j, none⟩ := by unfold Addr.add; split <;> simp_all
  rw [ad]
  refine box_cell (heap_alloc_new w _) j u ?_
  simpa using hu
theorem PcO.rd {B : Nat} {w : World} {v : Value} {ps : List Piece} (h : PcO B w v ps) : ∃ a c, v = .slice a ps.length c ∧ PcR w a ps ∧ ps.length ≤ c := by
  obtain ⟨h2, h3⟩ := h
  have hx : ∀ p ∈ ps, Rd w p.1 p.2.2 ∧ (p.1 = none → p.2.1 = 0) := fun p hp => ⟨(h3 p hp).1, (h3 p hp).2.1⟩
  rcases h2.2 with ⟨rfl, h0⟩ | ⟨g, cap, cur, rfl, hb, hg, k1, k2, k3, k4⟩
  · have : ps = [] := List.length_eq_zero_iff.1 h0
    subst this
    exact ⟨none, 0, rfl, ⟨.inl rfl, hx⟩, by simp⟩
  · refine ⟨_, cap, rfl, ⟨.inr ⟨g, 0, rfl, (Array.getElem?_eq_some_iff.1 hg).1, fun i hi => ?_⟩, hx⟩, k1⟩
    have hi' : i < ps.length := by simpa using hi
    have ad : ∀ j, (⟨g, 0, none⟩ : Addr).add j = ⟨g, 0 + j, none⟩ := fun j => by unfold Addr.add; split <;> simp_all
    have := h2.cells (g := g) rfl i _ (List.getElem?_eq_getElem hi)
    rw [ad] at this
    exact this
theorem w16_blk (n : Nat) (h : n ≤ 65535) (w : World) : Blk (w.alloc (.cells #[.int .u8 ((n : Int) / 256), .int .u8 ((n : Int) % 256)] 5)) w.heap.size (w16 n) := by
  refine ⟨?_, ?_⟩
  · rw [heap_alloc_new]
    have e1 : ((n : Int) / 256) = ((n / 256 % 256 : Nat) : Int) := by omega
    have e2 : ((n : Int) % 256) = ((n % 256 : Nat) : Int) := by omega
    rw [e1, e2]
    rfl
  · intro z hz
    simp only [w16, List.mem_cons, List.not_mem_nil, or_false] at hz
    rcases hz with rfl | rfl <;> omega
theorem put16x (n : Nat) (h : n ≤ 65535) (w : World) : Calls Try.prog 61 #[.int .i64 (n : Int)] w fun e w' => ∃ g, e = .returned (.tuple #[.slice (some ⟨g, 0, none⟩) 2 2, .int .i64 0]) ∧ Hid (g = w.heap.size ∧ Blk w' g (w16 n) ∧ Below w.heap.size w w') := by
  refine (put16_yes (n : Int) w (by omega) (by omega)).mono ?_
  rintro e w' ⟨rfl, rfl⟩
  exact ⟨_, rfl, rfl, w16_blk n h w, newE_below _ _⟩
theorem Blk.pcx {w : World} {g : Nat} {zs : List Int} (h : Blk w g zs) {q : Option Nat} (c : Nat) (hq : some g ≠ q) : PcX w q (some ⟨g, 0, none⟩, c, zs) := by
  refine ⟨⟨.inr ⟨g, 0, rfl, h.lt, fun i hi => by rw [Nat.zero_add]; exact h.cell i hi⟩, h.2⟩, by simp, .inr ⟨g, 0, rfl, h.lt, hq⟩⟩
theorem BRd.pcx {w w' : World} {x : Sl} {zs : List Int} (h : BRd w x zs) {q : Option Nat} (hb : Below w.heap.size w w') (hq : ∀ g, q = some g → w.heap.size ≤ g) : PcX w' q (x.a, x.c, zs) := by
  refine ⟨h.rd.below hb, h.nil, ?_⟩
  rcases h.rd.1 with h1 | ⟨b, o, h1, h2, _⟩
  · exact .inl h1
  · exact .inr ⟨b, o, h1, Nat.lt_of_lt_of_le h2 hb.size, fun e => by have := hq b e.symm; omega⟩
theorem PcX.stay {w w' : World} {g : Option Nat} {p : Piece} (h : PcX w g p) (hb : Below w.heap.size w w') : PcX w' g p := h.go ⟨hb.os, hb.tape, hb.output, hb.size, fun k hk _ => hb.block k hk⟩ (fun _ _ h => h)
set_option maxRecDepth 100000 in
set_option maxHeartbeats 1000000 in
theorem written38 (s : Sl) (os : List Opt) (w : World) (h : OsRd w s os) (hf : (obs os).length ≤ 65535) : Calls Try.prog 38 #[(.slice s.a s.n s.c)] w fun e w' => ∃ g, e = .returned (.slice (some ⟨g, 0, none⟩) (obs os).length (obs os).length) ∧ Hid (w.heap.size ≤ g ∧ Blk w' g (obs os) ∧ Below w.heap.size w w') := by
  have HO : Hid (OsRd w s os) := h
  have HF : Hid ((obs os).length ≤ 65535) := hf
  have hln := h.len
  have hcap := h.cap
  have hmany : 4 * os.length ≤ 65535 := by
    have : ∀ l : List Opt, 4 * l.length ≤ (obs l).length := by
      intro l
      induction l with
      | nil => simp [obs]
      | cons o l ih => simp only [obs, List.length_append, ob_len, List.length_cons]; omega
    have := this os
    omega
  clear h hf
  obtain ⟨sa, N, sc⟩ := s
  simp only at *
  obtain ⟨T, hT⟩ : ∃ T, T = (obs os).length := ⟨_, rfl⟩
  have HT : Hid (T = (obs os).length) := hT
  rw [← hT]
  clear hT
  obtain ⟨i33, hi, hz0, hz1, hz2⟩ := inf33
  have HI : Hid (Try.prog.info? 33 = some i33 ∧ i33.zero = some (.slice none 0 0) ∧ i33.size = 1 ∧ i33.bytes = 24) := ⟨hi, hz0, hz1, hz2⟩
  clear hi hz0 hz1 hz2
  go_enter Try.func38, Try.ntmps38
  go_wp2_with fail
  go_loopw [3, 12] (fun v x wr => ∃ k : Nat, k ≤ N ∧ x = .int .i64 k ∧ Hid (∃ ps, PcO w.heap.size wr v ps ∧ ps.length = 3 * k ∧ ps.flatMap (·.2.2) = obs (os.take k)) ∧ Hid (Below w.heap.size w wr)) (fun _ x _ => N - (intOf x).toNat)
  case atStart => exact ⟨0, Nat.zero_le _, rfl, ⟨[], PcO.nil _ _, rfl, rfl⟩, Below.refl _ _⟩
  case round =>
    obtain ⟨k, hk, rfl, HW, HB⟩ := hrel
    by_cases hlt : k < N
    · have hlt' : (k : Int) < (N : Int) := by omega
      have hke : k < os.length := by omega
      obtain ⟨b, o, e1, e2, x, e3, e4, e5⟩ := HO.out.at k hke
      have c3 := (HB.out.cell (p := ⟨b, o + k * 2, none⟩) e2).trans e3
      have c4 := (HB.out.cell (p := ⟨b, o + k * 2 + 1, none⟩) e2).trans e4
      have hbr : b < wr.heap.size := Nat.lt_of_lt_of_le e2 HB.out.size
      have HX : Hid (BRd w x os[k].d) := e5
      have hxl := e5.len
      have hcd : os[k].cd < 65536 := HO.out.cds _ (List.getElem_mem hke)
      have HST : Hid (obs (os.take (k + 1)) = obs (os.take k) ++ (w16 os[k].cd ++ w16 x.n ++ os[k].d)) := (show _ = _ by
        rw [List.take_succ_eq_append_getElem hke, obs_app]
        simp [obs, ob, hxl])
      have hxn : x.n ≤ 65535 := by
        have h1 := obs_le os (k + 1)
        have h2 := obs_step hke
        have h3 := HF.out
        omega
      clear e3 e4 e5 hxl
      simp only at e1
      subst e1
      obtain ⟨xa, xn, xc⟩ := x
      generalize os[k].cd = cd at *
      generalize os[k].d = dt at *
      simp only at *
      have hb0 := newE_below wr (.cells #[.int .u16 (cd : Int), .slice xa xn xc] 68)
      have hbx : (wr.alloc (.cells #[.int .u16 (cd : Int), .slice xa xn xc] 68)).heap[wr.heap.size]? = some (.cells #[.int .u16 (cd : Int), .slice xa xn xc] 68) := heap_alloc_new _ _
      have HB0 : Hid (Below wr.heap.size wr (wr.alloc (.cells #[.int .u16 (cd : Int), .slice xa xn xc] 68))) := hb0
      have HBX : Hid ((wr.alloc (.cells #[.int .u16 (cd : Int), .slice xa xn xc] 68)).heap[wr.heap.size]? = some (.cells #[.int .u16 (cd : Int), .slice xa xn xc] 68)) := hbx
      have hcw : IntKind.i64.wrap (cd : Int) = (cd : Int) := by rw [IntKind.wrap_i64]; omega
      clear hb0 hbx
      go_wp2_with fail
      generalize wr.alloc (.cells _ 68) = w0 at *
      refine (put16x cd (by omega) w0).mono ?_
      rintro e w1 ⟨g1, rfl, H1⟩
      have hx1 := (H1.out.2.2.block wr.heap.size (box_lt HBX.out)).trans HBX.out
      have HBX1 : Hid (w1.heap[wr.heap.size]? = some (.cells #[.int .u16 (cd : Int), .slice xa xn xc] 68)) := hx1
      have d1 := box_cell hx1 1 _ rfl
      have hl1 := box_lt hx1
      clear hx1
      go_wp2_with fail
      refine (put16x xn (by omega) w1).mono ?_
      rintro e w2 ⟨g2, rfl, H2⟩
      have hx2 := (H2.out.2.2.block wr.heap.size (box_lt HBX1.out)).trans HBX1.out
      have d2 := box_cell hx2 1 _ rfl
      have hl2 := box_lt hx2
      clear hx2 d1 hl1
      obtain ⟨ps, hp1, hp2, hp3⟩ := HW.out
      have HP : Hid (PcO w.heap.size wr u3 ps ∧ ps.flatMap (·.2.2) = obs (os.take k)) := ⟨hp1, hp3⟩
      have HPL : Hid (ps.length = 3 * k) := hp2
      clear hp1 hp2 hp3
      have HBR : Hid (Below wr.heap.size wr w2) := HB0.out.trans ((H1.out.2.2.mono HB0.out.size).trans (H2.out.2.2.mono (Nat.le_trans HB0.out.size H1.out.2.2.size)))
      have HOW : Hid ((w2.alloc (.cells #[.slice (some ⟨g1, 0, none⟩) 2 2, .slice (some ⟨g2, 0, none⟩) 2 2, .slice xa xn xc] 33)).ownsRow w.heap.size 33 1 u3 ps.length (ps.map pcV)) := (ownsRow_stays HP.out.1.1 HBR.out).alloc _
      have HBW : Hid (Below w.heap.size w (w2.alloc (.cells #[.slice (some ⟨g1, 0, none⟩) 2 2, .slice (some ⟨g2, 0, none⟩) 2 2, .slice xa xn xc] 33))) := (HB.out.trans (HBR.out.mono HB.out.size)).trans ((newE_below _ _).mono (Nat.le_trans HB.out.size HBR.out.size))
      have hbnd : ps.length ≤ 100000 := by rw [HPL.out]; omega
      have HN3 := Lib.hid (three_new w2 (.slice (some ⟨g1, 0, none⟩) 2 2) (.slice (some ⟨g2, 0, none⟩) 2 2) (.slice xa xn xc) 33)
      go_wp2_with (at_builtin; refine wpList_append_own_at _ rfl _ _ 97 rfl w.heap.size 33 i33 _ 1 24 Try.underlying97 HI.out.1 HI.out.2.1 HI.out.2.2.1 HI.out.2.2.2 rfl (by omega) _ ps.length _ rfl HOW.out ⟨w2.heap.size, 0, none⟩ 3 3 [.slice (some ⟨g1, 0, none⟩) 2 2, .slice (some ⟨g2, 0, none⟩) 2 2, .slice xa xn xc] rfl rfl HN3.out (by simp [Value.oneCell']) (by simp only [maxLen]; omega) (by omega) HBW.out.size ?_; intro v' w' h5 h6 _ h7; have H5 := Lib.hid h5; have H6 := Lib.hid h6; have H7 := Lib.hid h7; clear h5 h6 h7)
      refine ⟨⟨k + 1, by omega, by go_num, ⟨ps ++ [(some ⟨g1, 0, none⟩, 2, w16 cd), (some ⟨g2, 0, none⟩, 2, w16 xn), (xa, xc, dt)], ?_, ?_, ?_⟩, HBW.out.grown H6.out HBW.out.size (fun g e => (HOW.out.lt g e).1)⟩, by simp [intOf]; omega⟩
      · have hl3 : dt.length = xn := HX.out.len
        have e3 : [((some ⟨g1, 0, none⟩, 2, w16 cd) : Piece), (some ⟨g2, 0, none⟩, 2, w16 xn), (xa, xc, dt)].map pcV = [.slice (some ⟨g1, 0, none⟩) 2 2, .slice (some ⟨g2, 0, none⟩) 2 2, .slice xa xn xc] := by
          simp [pcV, w16, hl3]
        have hn1 := newE_below w2 (.cells #[.slice (some ⟨g1, 0, none⟩) 2 2, .slice (some ⟨g2, 0, none⟩) 2 2, .slice xa xn xc] 33)
        have s0 := HB0.out.size
        have s1 := H1.out.2.2.size
        have hg1 := H1.out.1
        have hg2 := H2.out.1
        have hlt := HP.out.1.1.lt
        refine PcO.push (w := w2.alloc (.cells #[.slice (some ⟨g1, 0, none⟩) 2 2, .slice (some ⟨g2, 0, none⟩) 2 2, .slice xa xn xc] 33)) (v := u3) (fun p hp => ((HP.out.1.2 p hp).stay HBR.out).stay hn1) (fun p hp => ?_) (by rw [e3]; exact H5.out) H6.out H7.out
        simp only [List.mem_cons, List.not_mem_nil, or_false] at hp
        rcases hp with rfl | rfl | rfl
        · exact ((Blk.pcx H1.out.2.1 2 (fun e => by have := (hlt g1 e.symm).2; omega)).stay H2.out.2.2).stay hn1
        · exact (Blk.pcx H2.out.2.1 2 (fun e => by have := (hlt g2 e.symm).2; omega)).stay hn1
        · exact BRd.pcx (x := ⟨xa, xn, xc⟩) HX.out HBW.out (fun g e => (hlt g e).1)
      · rw [List.length_append, HPL.out]; simp; omega
      · rw [List.flatMap_append, HP.out.2, HST.out]; simp
    · have hge : (N : Int) ≤ (k : Int) := by omega
      obtain ⟨ps, hp1, hp2, hp3⟩ := HW.out
      obtain ⟨a, c, hv, hr, hc⟩ := hp1.rd
      have hjn : jn ps ps.length = obs os := by
        unfold jn
        rw [List.take_length, hp3, List.take_of_length_le (by omega)]
      have KJ := Lib.hid (join62 a ps.length c ps wr rfl hr hc (by omega) (by rw [hjn]; have := HF.out; omega))
      rw [hjn, ← HT.out] at KJ
      clear hr hp1 hp2 hp3 hjn hc
      generalize ps.length = P at *
      subst hv
      go_wp2_with fail
      refine KJ.out.mono ?_
      rintro e w2 ⟨rfl, H2⟩
      go_wp2_with fail
      go_ret
      exact ⟨_, rfl, HB.out.size, H2.out.1, HB.out.trans (H2.out.2.mono HB.out.size)⟩
end Go.Proofs.Ytgeoadkcmbageaa
namespace Go.Proofs.Ytgeoadkcmbageaa
set_option linter.unusedVariables false
def unfl (n v : Nat) : Bool := n / v % 2 == 1
end Go.Proofs.Ytgeoadkcmbageaa
namespace Go.Proofs.Ytgeoadkcmbageaa
open Go.ChangeShapes Go.WideShapes Go.ChangeAt Go.RowKit
set_option linter.unusedVariables false
set_option linter.unusedSimpArgs false
theorem cell_of_block {W : World} {D i : Nat} {cs : Array Value} {ty : TypeId} {v : Value} (hD : W.heap[D]? = some (.cells cs ty)) (hv : cs[i]? = some v) : W.cell? ⟨D, i, none⟩ = some v := by
  simp [World.cell?, hD, hv]
theorem frozen_of_block {W : World} {D i : Nat} {cs : Array Value} {ty : TypeId} (hD : W.heap[D]? = some (.cells cs ty)) : W.frozen? ⟨D, i, none⟩ = false := by
  simp [World.frozen?, hD]
end Go.Proofs.Ytgeoadkcmbageaa
namespace Go.Proofs.Ytgeoadkcmbageaa
open Go.ChangeShapes Go.WideShapes Go.ChangeAt Go.RowKit
set_option linter.unusedVariables false
set_option linter.unusedSimpArgs false
theorem alloc_at (w : World) (o : Obj) : (w.alloc o).heap[w.heap.size]? = some o := by
  show (w.heap.push o)[w.heap.size]? = some o
  simp
end Go.Proofs.Ytgeoadkcmbageaa
namespace Go.Proofs.Ytgeoadkcmbageaa
open Go.ChangeShapes Go.WideShapes Go.ChangeAt Go.RowKit
set_option linter.unusedVariables false
set_option linter.unusedSimpArgs false
theorem nat_and_bit (n k : Nat) : n &&& 2 ^ k = (unfl n (2 ^ k)).toNat * 2 ^ k := by
  have e : unfl n (2 ^ k) = n.testBit k := by
    rw [Nat.testBit_eq_decide_div_mod_eq]; unfold unfl
    rcases Nat.mod_two_eq_zero_or_one (n / 2 ^ k) with h | h <;> simp [h]
  rw [e]
  apply Nat.eq_of_testBit_eq
  intro i
  rw [Nat.testBit_and, Nat.testBit_two_pow]
  by_cases hik : k = i
  · subst hik
    cases h : n.testBit k <;> simp [Nat.testBit_two_pow]
  · cases h : n.testBit k <;> simp [Nat.testBit_two_pow, hik]
theorem block_lt {W : World} {b : Nat} {o : Obj} (h : W.heap[b]? = some o) : b < W.heap.size := by
  rcases Nat.lt_or_ge b W.heap.size with h1 | h1
  · exact h1
  · rw [Array.getElem?_eq_none h1] at h; cases h
theorem block_alloc {W : World} {b : Nat} {o : Obj} (h : W.heap[b]? = some o) (x : Obj) : (W.alloc x).heap[b]? = some o := (Below.heap_alloc W x b (block_lt h)).trans h
end Go.Proofs.Ytgeoadkcmbageaa
namespace Go.Proofs.Ytgeoadkcmbageaa
open Go.ChangeShapes Go.WideShapes Go.ChangeAt Go.RowKit
set_option linter.unusedVariables false
set_option linter.unusedSimpArgs false
theorem set_ne (W : World) (a b : Addr) (u : Value) (h : ¬ b.block = a.block) : (W.setCell a u).cell? b = W.cell? b := World.cell?_of_block (w := W) (Below.heap_setCell W a u b.block h)
/-- A name, copied. -/
theorem copyn38 (s : Sl) (ow : List ByteArray) (w : World) (h : TRd w s ow) (hn : ow.length ≤ 8796093022000) :
    Calls Try.prog 34 #[.slice s.a s.n s.c] w fun e w' => ∃ s5 : Sl, e = .returned (.slice s5.a s5.n s5.c) ∧ Hid (Owx1 w.heap.size w' s5 ow ∧ Below w.heap.size w w') := by
  refine Calls.mono (copyN_any s.a s.c s.n ow 9223372036854775807 w h.rd h.len h.z63 (by have := h.len; omega)) ?_
  rintro e w' ⟨v, ys, rfl, H⟩
  obtain ⟨q1, q2, q3⟩ := H.out
  obtain ⟨ao, rfl, _⟩ := q1.shape
  exact ⟨⟨ao, _, _⟩, rfl, ⟨ys, q1, q2⟩, q3⟩
end Go.Proofs.Ytgeoadkcmbageaa
