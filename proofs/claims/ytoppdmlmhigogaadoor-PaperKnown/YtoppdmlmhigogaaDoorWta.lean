/- Texts laid together, in parts: Row Tl Tm Base Own Str Byt Bld Bld2 Txt Fld Ord Par Nr Ns Nt Nu Sp Xa Xd Xe Shelf Lz Ly Lx Bk Np Nxa Dsp Dbk Xb Nxi Dm. -/
import Derived.WalkKit
import Derived.ProofKit
import Derived.Below
import Derived.OwnWalk
import Derived.Laws.AppendOwn
import Derived.Laws.CopyOwn
import Derived.Deep.AppendSrc
import Derived.Test.YtoppdmlmhigogaaDoorRows
import Derived.Test.YtoppdmlmhigogaaDoorShelf
import Derived.WalkSpells
import Derived.Deep.QuietTactic
import Derived.BigQuiet
import Derived.Deep.RegionHeld3
import Derived.Laws.BitsAllLaws
import Derived.Laws.IdiomStrings
import Derived.Lib.Builder
import Derived.Lib.UnsafeStr
import Derived.Lib.Bytealg
import Derived.Lib.ItoaNum
import Derived.Lib.AtoiTie
import Derived.Lib.AtoiBound
import Derived.Lib.Split
import Derived.Lib.ParseIntB
import Derived.Lib.Join
import Derived.Shelf.Strings.OnBuilder
import Derived.Shelf.Small.Strs
import Derived.Shelf.Small.Wraps
import Derived.Shelf.Strconv.Itoa1
import Derived.Shelf.LaysM
import Derived.Shelf.Strconv.Itoa2
import Derived.Shelf.Strconv.Itoa3
import Derived.Shelf.Strconv.Clone
import Derived.Shelf.LaysC
import Derived.Shelf.Strconv.ToError
import Derived.Shelf.Strconv.Lower
import Derived.Shelf.Strconv.ToErrorRange
import Derived.Shelf.Strconv.ErrVarAll
import Derived.Shelf.Pu.ParseUintPublic10
import Derived.Shelf.Pu.ErrVarParseUint
import Derived.Shelf.Strings.Search3
import Derived.Shelf.Strings.Cut
import Derived.Shelf.Strings.Count
import Derived.Shelf.Strings.Prefix
import Derived.Shelf.Strings.Split
import Derived.Shelf.Strings.Fields
import Derived.Test.YtoppdmlmhigogaaDoorProg
import Derived.Lib.SmallJoins
import Derived.Lib.AppendIntMem
import Derived.Lib.AtoiAllMem
import Derived.BigCall
import Derived.BigGuard
import Derived.Lib.ConvBytes
import Derived.Lib.ParseIntBMem
import Derived.Lib.Hide
import Derived.Laws.Strings3
import Derived.Laws.Closers25
import Derived.Laws.Closers25b
import Derived.Lib.AppendZerosOnto
import Derived.Lib.AppendStr
import Derived.OpenShut
import Derived.ShutString
import Derived.ChangeOld
import Derived.JoinedCond
import Derived.Deep.Strs
import Derived.Deep.Slices
namespace Go.Proofs.YtoppdmlmhigogaaDoor
open Go.ChangeShapes Go.WideShapes Go.ChangeAt Go.RowKit
set_option linter.unusedVariables false
set_option linter.unusedSimpArgs false
/-- From the address on the values lie there. -/
def RdV (w : World) (a : Option Addr) (xs : List Value) : Prop :=
  xs = [] ∨ ∃ b o, a = some ⟨b, o, none⟩ ∧ b < w.heap.size ∧ ∀ i (h : i < xs.length), w.cell? ⟨b, o + i, none⟩ = some xs[i]
theorem RdV.below {w w' : World} {a : Option Addr} {xs : List Value} (h : RdV w a xs) (hb : Below w.heap.size w w') : RdV w' a xs := by
  rcases h with h1 | ⟨b, o, rfl, h1, h2⟩
  · exact .inl h1
  · exact .inr ⟨b, o, rfl, Nat.lt_of_lt_of_le h1 hb.size, fun i hi => (hb.cell (p := ⟨b, o + i, none⟩) h1).trans (h2 i hi)⟩
theorem RdV.cut {w : World} {a : Option Addr} {xs : List Value} (h : RdV w a xs) (p n : Nat) {a' : Option Addr}
    (ha : p < xs.length → ∀ b o, a = some ⟨b, o, none⟩ → a' = some ⟨b, o + p, none⟩) : RdV w a' ((xs.drop p).take n) := by
  by_cases h0 : (xs.drop p).take n = []
  · exact .inl h0
  · rcases h with h1 | ⟨b, o, rfl, h1, h2⟩
    · subst h1; simp at h0
    · have hp : p < xs.length := by
        by_cases hp : p < xs.length
        · exact hp
        · rw [List.drop_eq_nil_of_le (by omega)] at h0; simp at h0
      refine .inr ⟨b, o + p, ha hp b o rfl, h1, fun i hi => ?_⟩
      have hi2 : p + i < xs.length := by simp at hi; omega
      rw [Nat.add_assoc, h2 (p + i) hi2]
      simp
theorem RdV.cells {w : World} {a : Addr} {xs : List Value} (h : RdV w (some a) xs) : ∀ j u, xs[j]? = some u → w.cell? (a.add j) = some u := by
  intro j u hu
  obtain ⟨hj, e⟩ := List.getElem?_eq_some_iff.1 hu
  rcases h with h1 | ⟨b, o, e1, _, h2⟩
  · subst h1; simp at hj
  · cases e1
    rw [Addr.add_lit, h2 j hj, e]
/-- A block that holds just these, and may be written. -/
def BlkV (w : World) (g : Nat) (t : TypeId) (xs : List Value) : Prop := w.heap[g]? = some (.cells xs.toArray t (0, 0))
theorem BlkV.lt {w : World} {g : Nat} {t : TypeId} {xs : List Value} (h : BlkV w g t xs) : g < w.heap.size := (Array.getElem?_eq_some_iff.1 h).1
theorem BlkV.same {w w' : World} {g : Nat} {t : TypeId} {xs : List Value} (h : BlkV w g t xs) (hb : w'.heap[g]? = w.heap[g]?) : BlkV w' g t xs := hb.trans h
theorem BlkV.below {w w' : World} {g : Nat} {t : TypeId} {xs : List Value} (h : BlkV w g t xs) (hb : Below w.heap.size w w') : BlkV w' g t xs := h.same (hb.block g h.lt)
theorem BlkV.cell {w : World} {g : Nat} {t : TypeId} {xs : List Value} (h : BlkV w g t xs) (i : Nat) (hi : i < xs.length) : w.cell? ⟨g, i, none⟩ = some xs[i] := by
  have h' : w.heap[g]? = _ := h
  simp [World.cell?, h', hi]
theorem BlkV.frozen {w : World} {g : Nat} {t : TypeId} {xs : List Value} (h : BlkV w g t xs) (i : Nat) : w.frozen? ⟨g, i, none⟩ = false := by
  have h' : w.heap[g]? = _ := h
  simp [World.frozen?, h']
theorem BlkV.rd {w : World} {g : Nat} {t : TypeId} {xs : List Value} (h : BlkV w g t xs) (n : Nat) : RdV w (some ⟨g, 0, none⟩) (xs.take n) := by
  refine .inr ⟨g, 0, rfl, h.lt, fun i hi => ?_⟩
  have : i < xs.length := by simp at hi; omega
  rw [Nat.zero_add, h.cell i this]
  simp
theorem BlkV.stored {w : World} {g : Nat} {t : TypeId} {xs : List Value} (h : BlkV w g t xs) (i : Nat) (x : Value) : BlkV (w.setCell ⟨g, i, none⟩ x) g t (xs.set i x) := by
  have hg := h.lt
  have h1 : w.heap[g]? = _ := h
  have e : w.heap[g] = .cells xs.toArray t (0, 0) := by
    rw [Array.getElem?_eq_getElem hg] at h1; exact Option.some.inj h1
  unfold BlkV
  simp [World.setCell, hg, Array.getElem_modify, e]
theorem BlkV.cellsSet : ∀ (vs : List Value) (o : Nat) {w : World} {g : Nat} {t : TypeId} {xs : List Value}, BlkV w g t xs → o + vs.length ≤ xs.length →
    BlkV (w.setCells g o vs) g t (xs.take o ++ vs ++ xs.drop (o + vs.length)) ∧ w.grownBy (w.setCells g o vs) (some g)
  | [], o, w, g, t, xs, h, _ => ⟨by simpa [World.setCells] using h, World.grownBy.refl _ _⟩
  | v :: r, o, w, g, t, xs, h, hl => by
    have hl' : o + 1 + r.length ≤ (xs.set o v).length := by simp at hl ⊢; omega
    obtain ⟨h1, h2⟩ := BlkV.cellsSet r (o + 1) (h.stored o v) hl'
    have e1 : (xs.set o v).take (o + 1) ++ r ++ (xs.set o v).drop (o + 1 + r.length) = xs.take o ++ (v :: r) ++ xs.drop (o + (v :: r).length) := by
      have ho : o < xs.length := by simp at hl; omega
      have ht : (xs.set o v).take (o + 1) = xs.take o ++ [v] := by
        rw [List.take_succ_eq_append_getElem (by simpa using ho), List.take_set_of_le (Nat.le_refl _)]
        simp
      have hd : (xs.set o v).drop (o + 1 + r.length) = xs.drop (o + (v :: r).length) := by
        rw [List.drop_set_of_lt (by omega)]
        congr 1
        simp; omega
      rw [ht, hd]
      simp
    rw [e1] at h1
    refine ⟨h1, ?_⟩
    have h0 : w.grownBy (w.setCell ⟨g, o, none⟩ v) (some g) := ⟨rfl, rfl, rfl, by simp [World.setCell], fun k _ hk => Below.heap_setCell _ _ _ _ (fun e => hk (by simp [e]))⟩
    exact ⟨h2.os.trans h0.os, h2.tape.trans h0.tape, h2.output.trans h0.output, Nat.le_trans h0.size h2.size, fun k hk hne => (h2.block k (Nat.lt_of_lt_of_le hk h0.size) hne).trans (h0.block k hk hne)⟩
/-- A list in a block of its own, from the block B on: n of them, the block's whole cells are xs. -/
def OwnV (B : Nat) (w : World) (t : TypeId) (v : Value) (n : Nat) (xs : List Value) : Prop :=
  (v = .slice none 0 0 ∧ n = 0 ∧ xs = []) ∨
  ∃ g, v = .slice (some ⟨g, 0, none⟩) n xs.length ∧ B ≤ g ∧ BlkV w g t xs ∧ n ≤ xs.length ∧ xs.length ≤ maxLen
theorem OwnV.keep {B : Nat} {w w' : World} {t : TypeId} {v : Value} {n : Nat} {xs : List Value} (h : OwnV B w t v n xs) (hb : ∀ g, v.ownBlock = some g → g < w.heap.size → w'.heap[g]? = w.heap[g]?) : OwnV B w' t v n xs := by
  rcases h with h | ⟨g, rfl, h2, h3, h4⟩
  · exact .inl h
  · exact .inr ⟨g, rfl, h2, h3.same (hb g rfl h3.lt), h4⟩
theorem OwnV.below {B : Nat} {w w' : World} {t : TypeId} {v : Value} {n : Nat} {xs : List Value} (h : OwnV B w t v n xs) (hb : Below w.heap.size w w') : OwnV B w' t v n xs := h.keep fun g _ hg => hb.block g hg
theorem OwnV.mono {B B' : Nat} {w : World} {t : TypeId} {v : Value} {n : Nat} {xs : List Value} (h : OwnV B w t v n xs) (hB : B' ≤ B) : OwnV B' w t v n xs := by
  rcases h with h | ⟨g, h1, h2, h3⟩
  · exact .inl h
  · exact .inr ⟨g, h1, Nat.le_trans hB h2, h3⟩
theorem OwnV.lt {B : Nat} {w : World} {t : TypeId} {v : Value} {n : Nat} {xs : List Value} (h : OwnV B w t v n xs) : ∀ g, v.ownBlock = some g → B ≤ g := by
  intro g hg
  rcases h with ⟨rfl, _⟩ | ⟨g', rfl, h2, _⟩
  · cases hg
  · have : g' = g := Option.some.inj hg
    omega
theorem OwnV.shape {B : Nat} {w : World} {t : TypeId} {v : Value} {n : Nat} {xs : List Value} (h : OwnV B w t v n xs) : ∃ ao, v = .slice ao n xs.length ∧ (ao = none → xs.length = 0) := by
  rcases h with ⟨rfl, rfl, rfl⟩ | ⟨g, rfl, _⟩
  · exact ⟨none, rfl, fun _ => rfl⟩
  · exact ⟨_, rfl, fun h => by cases h⟩
theorem OwnV.le {B : Nat} {w : World} {t : TypeId} {v : Value} {n : Nat} {xs : List Value} (h : OwnV B w t v n xs) : n ≤ xs.length ∧ xs.length ≤ maxLen := by
  rcases h with ⟨_, rfl, rfl⟩ | ⟨g, _, _, _, h4, h5⟩
  · exact ⟨Nat.le_refl _, Nat.zero_le _⟩
  · exact ⟨h4, h5⟩
theorem OwnV.rd {B : Nat} {w : World} {t : TypeId} {ao : Option Addr} {n c : Nat} {xs : List Value} (h : OwnV B w t (.slice ao n c) n xs) (m : Nat) : RdV w ao (xs.take m) := by
  rcases h with ⟨_, _, rfl⟩ | ⟨g, e, _, h3, _⟩
  · exact .inl (by simp)
  · have : ao = some ⟨g, 0, none⟩ := by injection e
    rw [this]; exact h3.rd m
theorem OwnV.nil (B : Nat) (w : World) (t : TypeId) : OwnV B w t (.slice none 0 0) 0 [] := .inl ⟨rfl, rfl, rfl⟩
/-- A list's source: what is appended. -/
theorem src_of {P : Program} {w : World} {tx e' : TypeId} (hk : P.underlying tx = some (.slice e')) {ao : Option Addr} {m c : Nat} {news : List Value} (hr : RdV w ao news) (hl : news.length = m) (h1 : ∀ u ∈ news, u.oneCell' = true) : Src P 1 tx (.slice ao m c) m news w := by
  cases ao with
  | none =>
    have hn : news = [] := by
      rcases hr with h | ⟨b, o, h, _⟩
      · exact h
      · cases h
    subst hn
    subst hl
    exact Src.ofNil w hk c
  | some a => exact Src.ofSlice w hk a m c news (by simp [hl]) hr.cells h1
theorem zeros_eq1 (z : Value) (hz : z.cells = #[z]) (k : Nat) : Builtin.zeroCells z.cells k = (List.replicate k z).toArray := by
  rw [hz]
  apply Array.ext
  · simp [Builtin.zeroCells]
  · intro i h1 h2
    simp [Builtin.zeroCells]
    have : i % 1 = 0 := by omega
    simp [this]
/-- What is known of an element's type. -/
structure ElemTy (P : Program) (t e : TypeId) (z : Value) (bt : Nat) : Prop where
  ht : P.underlying t = some (.slice e)
  hi : (P.info? e).map (fun i => (i.zero, i.size, i.bytes)) = some (some z, 1, bt)
  hz : z.cells = #[z]
theorem run_append_row {P : Program} {t e : TypeId} {z : Value} {bt : Nat} (T : ElemTy P t e z bt) (w : World) (B : Nat) (tx ty : TypeId) (v : Value) (n : Nat) (xs : List Value) (hown : OwnV B w e v n xs)
    (x : Value) (m : Nat) (news : List Value) (hs : Src P 1 tx x m news w) (hb : (n + m) * bt ≤ 140737488355328) (h63 : n + m ≤ maxLen) (hB : B ≤ w.heap.size) :
    ∃ v' w' xs', (Builtin.append_ #[t, tx] ty #[v, x]).run P w = .ok v' w' ∧ OwnV B w' e v' (n + m) xs' ∧ xs'.take (n + m) = xs.take n ++ news ∧ w.grownBy w' v.ownBlock ∧ (∀ Q : Value → Prop, Q z → (∀ u ∈ xs, Q u) → (∀ u ∈ news, Q u) → ∀ u ∈ xs', Q u) ∧ (n + m ≤ xs.length → xs'.length = xs.length) := by
  obtain ⟨i, hi, hz0, hz1, hz2⟩ := info_parts T.hi
  have hs' : Src P i.size tx x m news w := by rw [hz1]; exact hs
  have hnl : news.length = m := by simpa using hs.newsLen
  have grow : ∀ (base : Option Addr) (old : Nat), v = .slice base n old → old < n + m → (Builtin.firstCells i.size n (.slice base n old)).run P w.drew = .ok (xs.take n).toArray w.drew → (xs.take n).length = n → (n + m ≤ xs.length → False) →
      ∃ v' w' xs', (Builtin.append_ #[t, tx] ty #[v, x]).run P w = .ok v' w' ∧ OwnV B w' e v' (n + m) xs' ∧ xs'.take (n + m) = xs.take n ++ news ∧ w.grownBy w' v.ownBlock ∧ (∀ Q : Value → Prop, Q z → (∀ u ∈ xs, Q u) → (∀ u ∈ news, Q u) → ∀ u ∈ xs', Q u) ∧ (n + m ≤ xs.length → xs'.length = xs.length) := by
    intro base old hv ho hold htl hno
    have hge := grownCap_ge w (n + m) old e
    have hle := grownCap_le_maxLen w (n + m) old e h63
    have hr' := run_append_grow_src (P := P) w t tx ty e i z T.ht hi hz0 base n old (xs.take n) hold x m news hs' ho (by simp only [maxLen] at h63; omega) (growslice_fits ho (by rw [hz2]; exact hb))
    rw [zeros_eq1 z T.hz] at hr'
    have e1 : ((xs.take n ++ news).toArray ++ (List.replicate (grownCap w (n + m) old e - (n + m)) z).toArray) = (xs.take n ++ news ++ List.replicate (grownCap w (n + m) old e - (n + m)) z).toArray := by simp
    rw [e1] at hr'
    have hl : (xs.take n ++ news ++ List.replicate (grownCap w (n + m) old e - (n + m)) z).length = grownCap w (n + m) old e := by
      simp only [List.length_append, htl, hnl, List.length_replicate]; omega
    rw [hv]
    refine ⟨_, _, xs.take n ++ news ++ List.replicate (grownCap w (n + m) old e - (n + m)) z, hr', .inr ⟨w.heap.size, by rw [hl], hB, heap_alloc_new w.drew _, by rw [hl]; exact hge, by rw [hl]; exact hle⟩, ?_, ⟨rfl, rfl, rfl, by simp, fun k hk _ => Below.heap_alloc w.drew _ k hk⟩, ?_, fun h => (hno h).elim⟩
    · rw [List.take_append_of_le_length (by simp only [List.length_append, htl, hnl]; omega)]
      exact List.take_of_length_le (by simp only [List.length_append, htl, hnl]; omega)
    · intro Q qz qx qn u hu
      simp only [List.mem_append, List.mem_replicate] at hu
      rcases hu with (hu | hu) | ⟨_, rfl⟩
      · exact qx u (List.mem_of_mem_take hu)
      · exact qn u hu
      · exact qz
  rcases hown with ⟨rfl, rfl, rfl⟩ | ⟨g, rfl, hBg, hblk, hn, hm⟩
  · by_cases hm0 : m = 0
    · subst hm0
      have hnews : news = [] := List.eq_nil_of_length_eq_zero hnl
      subst hnews
      refine ⟨.slice none 0 0, w, [], ?_, .inl ⟨rfl, rfl, rfl⟩, by simp, World.grownBy.refl _ _, (fun Q _ _ _ u hu => nomatch hu), fun _ => rfl⟩
      rcases hs'.kind with ⟨e', hk⟩ | hk <;> simp [Builtin.append_, run_underlying T.ht, run_underlying hk, sizeOf, typeInfo, hi, hs'.len, hs'.cells]
    · exact grow none 0 rfl (by omega) (run_firstCells_none w.drew i.size 0 0 0) (by simp) (fun h => by simp at h; omega)
  · by_cases hroom : n + m ≤ xs.length
    · have hc : ∀ j, j < news.length → (w.cell? ⟨g, 0 + n * i.size + j, none⟩).isSome = true := by
        intro j hj
        have h2 : 0 + n * i.size + j < xs.length := by rw [hz1]; omega
        rw [hblk.cell _ h2]; rfl
      have hf : ∀ j, j < news.length → w.frozen? ⟨g, 0 + n * i.size + j, none⟩ = false := fun j _ => hblk.frozen _
      have hr' := run_append_room_src (P := P) w t tx ty e i T.ht hi g 0 n xs.length x m news hs' hroom hc hf
      obtain ⟨hset, hgr⟩ : BlkV (w.setCells g (0 + n * i.size) news) g e (xs.take n ++ news ++ xs.drop (n + m)) ∧ w.grownBy (w.setCells g (0 + n * i.size) news) (some g) := by
        have := BlkV.cellsSet news n hblk (by omega)
        rw [hnl] at this
        rw [hz1, Nat.mul_one, Nat.zero_add]
        exact this
      have hlen : (xs.take n ++ news ++ xs.drop (n + m)).length = xs.length := by simp [hnl]; omega
      refine ⟨_, _, xs.take n ++ news ++ xs.drop (n + m), hr', .inr ⟨g, by rw [hlen], hBg, hset, by rw [hlen]; exact hroom, by rw [hlen]; exact hm⟩, ?_, ?_, ?_, fun _ => hlen⟩
      · rw [List.take_append_of_le_length (by simp [hnl]; omega)]
        exact List.take_of_length_le (by simp [hnl]; omega)
      · exact hgr
      · intro Q qz qx qn u hu
        simp only [List.mem_append] at hu
        rcases hu with (hu | hu) | hu
        · exact qx u (List.mem_of_mem_take hu)
        · exact qn u hu
        · exact qx u (List.mem_of_mem_drop hu)
    · refine grow (some ⟨g, 0, none⟩) xs.length rfl (by omega) ?_ (by simp; omega) (fun h => hroom h)
      have := run_firstCells_some (P := P) w.drew i.size n ⟨g, 0, none⟩ n xs.length (xs.take n) (by rw [hz1]; simp; omega) (fun j u hu => (hblk.below (Below.refl _ _).drew).rd n |>.cells j u hu)
      exact this
/-- An append, as a step of a walk. -/
theorem wpList_append_row {P : Program} {t e : TypeId} {z : Value} {bt : Nat} (T : ElemTy P t e z bt) (w : World) {ops : Array Oper} {rest : List Oper} {o : Oper} {a : Act} {Q : Exit → Act → World → Prop} (hgd : o.guard = none) (s x : Operand) (tx : TypeId)
    (ho : o.op = .call { callee := .builtin .append, args := #[s, x], argTypes := #[t, tx] }) (B : Nat) (v : Value) (n : Nat) (xs : List Value) (hs : a.eval s = v) (hown : OwnV B w e v n xs)
    (xv : Value) (m : Nat) (news : List Value) (hx : a.eval x = xv) (hsrc : Src P 1 tx xv m news w) (hb : (n + m) * bt ≤ 140737488355328) (h63 : n + m ≤ maxLen) (hB : B ≤ w.heap.size)
    (h : ∀ v' w' xs', Hid (OwnV B w' e v' (n + m) xs') → Hid (xs'.take (n + m) = xs.take n ++ news) → w.grownBy w' v.ownBlock → Hid ((∀ Q : Value → Prop, Q z → (∀ u ∈ xs, Q u) → (∀ u ∈ news, Q u) → ∀ u ∈ xs', Q u) ∧ (n + m ≤ xs.length → xs'.length = xs.length)) → wpList P ops Q rest (a.put o.dst v') w') : wpList P ops Q (o :: rest) a w := by
  refine wpList_plain hgd fun K hK => ?_
  obtain ⟨v', w', xs', hrun, h2, h3, h4, h5⟩ := run_append_row T w B tx o.type v n xs hown xv m news hsrc hb h63 hB
  unfold Oper.wp execOp
  simp only [ho, resolve, invoke, builtin, Sem.run_bind, Sem.run_pure, Result.andThen_ok, List.map_toArray, List.map_cons, List.map_nil, hs, hx, hrun]
  exact hK _ _ (h v' w' xs' h2 h3 h4 h5)
end Go.Proofs.YtoppdmlmhigogaaDoor
namespace Go.Proofs.YtoppdmlmhigogaaDoor
open Go.ChangeShapes Go.WideShapes Go.ChangeAt Go.RowKit
set_option linter.unusedVariables false
set_option linter.unusedSimpArgs false
theorem tyT : ElemTy Tryd.prog 25 9 (.string ⟨#[]⟩) 16 := ⟨Tryd.underlying25, by kernel_rfl, rfl⟩
/-- Texts as values. -/
def tv (ss : List ByteArray) : List Value := ss.map Value.string
theorem tv_len (ss : List ByteArray) : (tv ss).length = ss.length := by simp [tv]
theorem tv_at (ss : List ByteArray) (i : Nat) (h : i < (tv ss).length) : (tv ss)[i] = .string (ss[i]'(by rw [← tv_len]; exact h)) := by simp [tv]
theorem tv_one (ss : List ByteArray) : ∀ u ∈ tv ss, u.oneCell' = true := by
  intro u hu
  simp only [tv, List.mem_map] at hu
  obtain ⟨s, _, rfl⟩ := hu
  rfl
theorem tv_append (a b : List ByteArray) : tv (a ++ b) = tv a ++ tv b := by simp [tv]
theorem tv_take (a : List ByteArray) (n : Nat) : (tv a).take n = tv (a.take n) := by simp [tv, List.map_take]
theorem tv_drop (a : List ByteArray) (n : Nat) : (tv a).drop n = tv (a.drop n) := by simp [tv, List.map_drop]
/-- Texts that can be read at an address. -/
def RdT (w : World) (a : Option Addr) (ss : List ByteArray) : Prop := RdV w a (tv ss)
theorem RdT.below {w w' : World} {a : Option Addr} {ss : List ByteArray} (h : RdT w a ss) (hb : Below w.heap.size w w') : RdT w' a ss := RdV.below h hb
theorem RdT.at {w : World} {a : Option Addr} {ss : List ByteArray} (h : RdT w a ss) (i : Nat) (hi : i < ss.length) : ∃ b o, a = some ⟨b, o, none⟩ ∧ b < w.heap.size ∧ w.cell? ⟨b, o + i, none⟩ = some (.string ss[i]) := by
  rcases h with h | ⟨b, o, rfl, h1, h2⟩
  · have := congrArg List.length h
    rw [tv_len] at this
    simp at this
    subst this
    simp at hi
  · refine ⟨b, o, rfl, h1, ?_⟩
    rw [h2 i (by rw [tv_len]; exact hi), tv_at]
end Go.Proofs.YtoppdmlmhigogaaDoor
namespace Go.Proofs.YtoppdmlmhigogaaDoor
open Go.ChangeShapes Go.WideShapes Go.ChangeAt Go.RowKit
set_option linter.unusedVariables false
set_option linter.unusedSimpArgs false
/-- A text of at most M bytes, as a value. -/
def QS (M : Nat) (u : Value) : Prop := ∃ s : ByteArray, u = .string s ∧ s.size ≤ M
theorem tv_of {M : Nat} : ∀ xs : List Value, (∀ u ∈ xs, QS M u) → ∃ ys, xs = tv ys ∧ ∀ s ∈ ys, s.size ≤ M
  | [], _ => ⟨[], rfl, by simp⟩
  | x :: xs, h => by
    obtain ⟨ys, e1, e2⟩ := tv_of xs (fun u hu => h u (by simp [hu]))
    obtain ⟨s, rfl, hs⟩ := h x (by simp)
    refine ⟨s :: ys, by rw [e1]; rfl, fun q hq => ?_⟩
    rcases List.mem_cons.1 hq with rfl | hq
    · exact hs
    · exact e2 q hq
theorem qs_tv {M : Nat} {ss : List ByteArray} (h : ∀ s ∈ ss, s.size ≤ M) : ∀ u ∈ tv ss, QS M u := by
  intro u hu
  simp only [tv, List.mem_map] at hu
  obtain ⟨s, hs, rfl⟩ := hu
  exact ⟨s, rfl, h s hs⟩
theorem tv_inj : ∀ {a b : List ByteArray}, tv a = tv b → a = b
  | [], [], _ => rfl
  | [], _ :: _, h => by simp [tv] at h
  | _ :: _, [], h => by simp [tv] at h
  | x :: a, y :: b, h => by
    simp only [tv, List.map_cons, List.cons.injEq, Value.string.injEq] at h
    rw [h.1, tv_inj (a := a) (b := b) h.2]
/-- A list of texts in a block of its own. -/
def OwnT (B : Nat) (w : World) (v : Value) (n : Nat) (ss : List ByteArray) (M : Nat) : Prop := OwnV B w 9 v n (tv ss) ∧ ∀ s ∈ ss, s.size ≤ M
theorem OwnT.below {B : Nat} {w w' : World} {v : Value} {n : Nat} {ss : List ByteArray} {M : Nat} (h : OwnT B w v n ss M) (hb : Below w.heap.size w w') : OwnT B w' v n ss M := ⟨h.1.below hb, h.2⟩
theorem OwnT.mono {B B' : Nat} {w : World} {v : Value} {n : Nat} {ss : List ByteArray} {M : Nat} (h : OwnT B w v n ss M) (hB : B' ≤ B) : OwnT B' w v n ss M := ⟨h.1.mono hB, h.2⟩
theorem OwnT.nil (B : Nat) (w : World) (M : Nat) : OwnT B w (.slice none 0 0) 0 [] M := ⟨OwnV.nil B w 9, by simp⟩
theorem OwnT.rd {B : Nat} {w : World} {ao : Option Addr} {n c : Nat} {ss : List ByteArray} {M : Nat} (h : OwnT B w (.slice ao n c) n ss M) (m : Nat) : RdT w ao (ss.take m) := by
  have := h.1.rd m
  rw [tv_take] at this
  exact this
theorem OwnT.shape {B : Nat} {w : World} {v : Value} {n : Nat} {ss : List ByteArray} {M : Nat} (h : OwnT B w v n ss M) : ∃ ao, v = .slice ao n ss.length ∧ (ao = none → ss.length = 0) := by
  obtain ⟨ao, h1, h2⟩ := h.1.shape
  rw [tv_len] at h1 h2
  exact ⟨ao, h1, h2⟩
theorem OwnT.le {B : Nat} {w : World} {v : Value} {n : Nat} {ss : List ByteArray} {M : Nat} (h : OwnT B w v n ss M) : n ≤ ss.length ∧ ss.length ≤ maxLen := by
  have := h.1.le
  rw [tv_len] at this
  exact this
theorem wpList_append_T {t : TypeId} (T : ElemTy Tryd.prog t 9 (.string ⟨#[]⟩) 16) (w : World) {ops : Array Oper} {rest : List Oper} {o : Oper} {a : Act} {Q : Exit → Act → World → Prop} (hgd : o.guard = none) (s x : Operand) (tx e' : TypeId) (hk : Tryd.prog.underlying tx = some (.slice e'))
    (ho : o.op = .call { callee := .builtin .append, args := #[s, x], argTypes := #[t, tx] }) (B : Nat) (v : Value) (n : Nat) (ss : List ByteArray) (M : Nat) (hs : a.eval s = v) (hown : OwnT B w v n ss M)
    (ao : Option Addr) (m c : Nat) (ns : List ByteArray) (hx : a.eval x = .slice ao m c) (hr : RdT w ao ns) (hl : ns.length = m) (hM : ∀ s ∈ ns, s.size ≤ M) (hb : n + m ≤ 8796093022000) (hB : B ≤ w.heap.size)
    (h : ∀ v' w' ys, Hid (OwnT B w' v' (n + m) ys M) → Hid (ys.take (n + m) = ss.take n ++ ns) → w.grownBy w' v.ownBlock → wpList Tryd.prog ops Q rest (a.put o.dst v') w') : wpList Tryd.prog ops Q (o :: rest) a w := by
  refine wpList_append_row T w hgd s x tx ho B v n (tv ss) hs hown.1 (.slice ao m c) m (tv ns) hx (src_of hk hr (by rw [tv_len]; exact hl) (tv_one ns)) (by omega) (by simp only [maxLen]; omega) hB ?_
  intro v' w' xs' h1 h2 h3 h4
  obtain ⟨ys, rfl, hys⟩ := tv_of (M := M) xs' (h4.out.1 (QS M) ⟨⟨#[]⟩, rfl, Nat.zero_le _⟩ (qs_tv hown.2) (qs_tv hM))
  refine h v' w' ys ⟨h1.out, hys⟩ ?_ h3
  have h2' := h2.out
  rw [tv_take, tv_take, ← tv_append] at h2'
  exact tv_inj h2'
theorem one_rdT (w : World) (s : ByteArray) : RdT (w.alloc (.cells #[.string s] 9)) (some ⟨w.heap.size, 0, none⟩) [s] := by
  refine .inr ⟨w.heap.size, 0, rfl, by simp, fun i hi => ?_⟩
  have : i = 0 := by simp [tv] at hi; omega
  subst this
  simp [go_sem, tv]
end Go.Proofs.YtoppdmlmhigogaaDoor
namespace Go.Proofs.YtoppdmlmhigogaaDoor
open Go.ChangeShapes Go.WideShapes Go.ChangeAt Go.RowKit
/-- From the address on the numbers lie there, each a byte. -/
def Rd (w : World) (a : Option Addr) (zs : List Int) : Prop :=
  (zs = [] ∨ ∃ b o, a = some ⟨b, o, none⟩ ∧ b < w.heap.size ∧ ∀ i, i < zs.length → w.cell? ⟨b, o + i, none⟩ = some (.int .u8 (zs.getD i 0))) ∧ ∀ z ∈ zs, 0 ≤ z ∧ z ≤ 255
theorem Rd.bd {w : World} {a : Option Addr} {zs : List Int} (h : Rd w a zs) (i : Nat) : 0 ≤ zs.getD i 0 ∧ zs.getD i 0 ≤ 255 := by
  by_cases hi : i < zs.length
  · have := h.2 (zs.getD i 0) (by rw [List.getD_eq_getElem?_getD, List.getElem?_eq_getElem hi]; simp)
    exact this
  · rw [List.getD_eq_getElem?_getD, List.getElem?_eq_none (by omega)]; simp
theorem Rd.below {w w' : World} {a : Option Addr} {zs : List Int} (h : Rd w a zs) (hb : Below w.heap.size w w') : Rd w' a zs := by
  refine ⟨?_, h.2⟩
  rcases h.1 with h1 | ⟨b, o, rfl, h1, h2⟩
  · exact .inl h1
  · refine .inr ⟨b, o, rfl, Nat.lt_of_lt_of_le h1 hb.size, fun i hi => ?_⟩
    rw [← h2 i hi]
    exact hb.cell (p := ⟨b, o + i, none⟩) h1
theorem take_snoc (zs : List Int) (k : Nat) (h : k < zs.length) : zs.take (k + 1) = zs.take k ++ [zs.getD k 0] := by
  rw [List.take_succ_eq_append_getElem h]; simp [List.getD_eq_getElem?_getD, List.getElem?_eq_getElem h]
/-- A block that holds just these bytes, and may be written. -/
def Blk (w : World) (g : Nat) (zs : List Int) : Prop :=
  w.heap[g]? = some (.cells (zs.map (Value.int .u8)).toArray 5 (0, 0)) ∧ ∀ z ∈ zs, 0 ≤ z ∧ z ≤ 255
theorem Blk.lt {w : World} {g : Nat} {zs : List Int} (h : Blk w g zs) : g < w.heap.size := by
  have := h.1
  by_cases hg : g < w.heap.size
  · exact hg
  · rw [Array.getElem?_eq_none (by omega)] at this; cases this
theorem Blk.cell {w : World} {g : Nat} {zs : List Int} (h : Blk w g zs) (i : Nat) (hi : i < zs.length) : w.cell? ⟨g, i, none⟩ = some (.int .u8 (zs.getD i 0)) := by
  simp [World.cell?, h.1, hi]
end Go.Proofs.YtoppdmlmhigogaaDoor
namespace Go.Proofs.YtoppdmlmhigogaaDoor
open Go.ChangeShapes Go.WideShapes Go.ChangeAt Go.RowKit
set_option linter.unusedVariables false
set_option linter.unusedSimpArgs false
theorem Tryd.info5 : (Tryd.prog.info? 5).map (fun i => (i.zero, i.size, i.bytes)) = some (some (.int .u8 0), 1, 1) := by kernel_rfl
end Go.Proofs.YtoppdmlmhigogaaDoor
namespace Go.Proofs.YtoppdmlmhigogaaDoor
open Go.ChangeShapes Go.WideShapes Go.ChangeAt Go.RowKit
set_option linter.unusedVariables false
set_option linter.unusedSimpArgs false
/-- The text of bytes. -/
def txt (zs : List Int) : List UInt8 := zs.map fun z => UInt8.ofNat z.toNat
theorem txt_len (zs : List Int) : (txt zs).length = zs.length := by simp [txt]
/-- The block of an address. -/
def blk (ao : Option Addr) : Option Nat := ao.map (·.block)
/-- The bytes of a text, as numbers. -/
def nums (s : ByteArray) : List Int := s.data.toList.map fun b => (b.toNat : Int)
theorem nums_len (s : ByteArray) : (nums s).length = s.size := by simp [nums]
theorem nums_at (s : ByteArray) (i : Nat) (h : i < s.size) : (nums s).getD i 0 = (s[i].toNat : Int) := by
  have h' : i < s.data.toList.length := by simpa using h
  simp [nums, List.getD_eq_getElem?_getD]
  rw [show s.data[i]? = some s[i] from Array.getElem?_eq_getElem h]
  rfl
theorem nums_bd (s : ByteArray) (i : Nat) : 0 ≤ (nums s).getD i 0 ∧ (nums s).getD i 0 ≤ 255 := by
  by_cases h : i < s.size
  · rw [nums_at s i h]; have := s[i].toNat_lt; omega
  · rw [List.getD_eq_getElem?_getD, List.getElem?_eq_none (by rw [nums_len]; omega)]; simp
theorem heap_set {w : World} {g : Nat} {cur : Array Value} {t : TypeId} {fr : Nat × Nat} (h : w.heap[g]? = some (.cells cur t fr)) (i : Nat) (v : Value) :
    (w.setCell ⟨g, i, none⟩ v).heap[g]? = some (.cells (cur.setIfInBounds i v) t fr) := by
  have hg : g < w.heap.size := (Array.getElem?_eq_some_iff.1 h).1
  have e : w.heap[g] = .cells cur t fr := by
    rw [Array.getElem?_eq_getElem hg] at h; exact Option.some.inj h
  simp [World.setCell, hg, Array.getElem_modify, e]
end Go.Proofs.YtoppdmlmhigogaaDoor
namespace Go.Proofs.YtoppdmlmhigogaaDoor
open Go.ChangeShapes Go.WideShapes Go.ChangeAt Go.RowKit
set_option linter.unusedVariables false
set_option linter.unusedSimpArgs false
def vis (c : Int) : Bool := decide (33 ≤ c) && decide (c ≤ 126)
def dgt (c : Int) : Bool := decide (48 ≤ c) && decide (c ≤ 57)
theorem ret_bool {a b : Bool} (h : a = b) : Ending.returned (.bool a) = .returned (.bool b) := by rw [h]
/-- The byte that the front of a text stands for, and how many bytes of it say so; 0, if they say none. -/
def v2 (a b : Int) : Int := 10 * (a - 48) + (b - 48)
def v3 (a b c : Int) : Int := 100 * (a - 48) + 10 * (b - 48) + (c - 48)
def num3 (l : List Int) : Int × Int :=
  if l.length < 4 then (0, 0)
  else if dgt (l.getD 1 0) && dgt (l.getD 2 0) && dgt (l.getD 3 0) && decide (v3 (l.getD 1 0) (l.getD 2 0) (l.getD 3 0) ≤ 255) then (v3 (l.getD 1 0) (l.getD 2 0) (l.getD 3 0), 4)
  else (0, 0)
def esc (l : List Int) : Int × Int :=
  if l.length ≤ 1 then (0, 0)
  else if dgt (l.getD 1 0) then num3 l
  else if vis (l.getD 1 0) then (l.getD 1 0, 2) else (0, 0)
def fr (l : List Int) : Int × Int :=
  if !vis (l.getD 0 0) then (0, 0)
  else if l.getD 0 0 == 92 then esc l
  else (l.getD 0 0, 1)
end Go.Proofs.YtoppdmlmhigogaaDoor
namespace Go.Proofs.YtoppdmlmhigogaaDoor
open Go.ChangeShapes Go.WideShapes Go.ChangeAt Go.RowKit
set_option linter.unusedVariables false
set_option linter.unusedSimpArgs false
/-- A Builder's block: what it holds of itself, its bytes. -/
def BB (w : World) (b : Nat) (p v : Value) : Prop := w.heap[b]? = some (.cells #[p, v] 46 (0, 0))
theorem BB.lt {w : World} {b : Nat} {p v : Value} (h : BB w b p v) : b < w.heap.size := (Array.getElem?_eq_some_iff.1 h).1
theorem BB.c0 {w : World} {b : Nat} {p v : Value} (h : BB w b p v) : w.cell? ⟨b, 0, none⟩ = some p := by
  have h' : w.heap[b]? = _ := h
  simp [World.cell?, h']
theorem BB.c1 {w : World} {b : Nat} {p v : Value} (h : BB w b p v) : w.cell? ⟨b, 1, none⟩ = some v := by
  have h' : w.heap[b]? = _ := h
  simp [World.cell?, h']
theorem BB.fz {w : World} {b : Nat} {p v : Value} (h : BB w b p v) (i : Nat) : w.frozen? ⟨b, i, none⟩ = false := by
  have h' : w.heap[b]? = _ := h
  simp [World.frozen?, h']
theorem BB.sh {w : World} {b : Nat} {p v : Value} (h : BB w b p v) : w.shape? b = some (46, 2) := by
  have h' : w.heap[b]? = _ := h
  simp [World.shape?, h']
theorem BB.same {w w' : World} {b : Nat} {p v : Value} (h : BB w b p v) (hb : w'.heap[b]? = w.heap[b]?) : BB w' b p v := hb.trans h
theorem call62 (x : Value) (w : World) : (callFunc 62 #[x]).run Tryd.prog w = .ok (.value x) w := by
  rw [run_callFunc_extern (e := Extern.AbiNoEscape.same) Tryd.func62 (by kernel_rfl) (by kernel_rfl) (by kernel_rfl) (by kernel_rfl) _ w]
  rfl
theorem neq_bld (a : Addr) (w : World) : (binOp .neq 44 (.pointer (some a)) (.pointer (some a))).run Tryd.prog w = .ok (.bool false) w := by
  obtain ⟨j, hi⟩ : ∃ j, Tryd.prog.info? 46 = some j := Option.isSome_iff_exists.1 (by kernel_rfl)
  exact Lib.run_neq_ptr_same w a Tryd.underlying44 hi
theorem to_unsafe (w : World) (b : Nat) (h : w.shape? b = some (46, 2)) : (convert 44 103 (.pointer (some ⟨b, 0, none⟩))).run Tryd.prog w = .ok (.pointer (some ⟨b, 0, none⟩)) w := by
  obtain ⟨j, hi⟩ : ∃ j, Tryd.prog.info? 46 = some j := Option.isSome_iff_exists.1 (by kernel_rfl)
  have hz : (Tryd.prog.info? 46).map (·.size) = some 2 := by kernel_rfl
  rw [hi] at hz
  have hj : j.size = 2 := by simpa using hz
  exact Lib.run_to_unsafe w ⟨b, 0, none⟩ Tryd.underlying44 Tryd.underlying103 hi (by omega) h (by simp)
theorem from_unsafe (w : World) (b : Nat) (h : w.shape? b = some (46, 2)) : (convert 103 44 (.pointer (some ⟨b, 0, none⟩))).run Tryd.prog w = .ok (.pointer (some ⟨b, 0, none⟩)) w := by
  obtain ⟨j, hi⟩ : ∃ j, Tryd.prog.info? 46 = some j := Option.isSome_iff_exists.1 (by kernel_rfl)
  exact Lib.run_from_unsafe w ⟨b, 0, none⟩ Tryd.underlying103 Tryd.underlying44 hi h (by kernel_rfl)
set_option maxRecDepth 100000 in
set_option maxHeartbeats 400000 in
theorem check_fresh (b : Nat) (v : Value) (w : World) (h : BB w b (.pointer none) v) :
    Calls Tryd.prog 48 #[.pointer (some ⟨b, 0, none⟩)] w fun e w' => e = .returned (.tuple #[]) ∧ w' = w.setCell ⟨b, 0, none⟩ (.pointer (some ⟨b, 0, none⟩)) := by
  have c0 := h.c0
  have f0 := h.fz 0
  have h1 := call62
  have h2 := to_unsafe w b h.sh
  have h3 := from_unsafe w b h.sh
  have h4 := neq_bld ⟨b, 0, none⟩
  clear h
  go_enter Tryd.func48, Tryd.ntmps48
  go_wp2
  go_end0
  exact ⟨rfl, rfl⟩
set_option maxRecDepth 100000 in
set_option maxHeartbeats 400000 in
theorem check_used (b : Nat) (v : Value) (w : World) (h : BB w b (.pointer (some ⟨b, 0, none⟩)) v) :
    Calls Tryd.prog 48 #[.pointer (some ⟨b, 0, none⟩)] w fun e w' => e = .returned (.tuple #[]) ∧ w' = w := by
  have c0 := h.c0
  have h4 := neq_bld ⟨b, 0, none⟩
  clear h
  go_enter Tryd.func48, Tryd.ntmps48
  go_wp2
  go_end0
  exact ⟨rfl, rfl⟩
theorem below_row {B : Nat} {w0 w w' : World} {b : Nat} (hb : Below B w0 w) (hlt : b < w.heap.size) (hg : w.grownBy w' (some b)) (hB : B ≤ b) : Below B w0 w' :=
  hb.grown hg (by omega) (fun k e => by have := Option.some.inj e; omega)
/-- A Builder with room for N bytes that holds bs. -/
def BSt (B : Nat) (w : World) (b N : Nat) (bs : List Value) : Prop :=
  (N = 0 ∧ bs = [] ∧ BB w b (.pointer (some ⟨b, 0, none⟩)) (.slice none 0 0)) ∨
  ∃ g c, BB w b (.pointer (some ⟨b, 0, none⟩)) (.slice (some ⟨g, 0, none⟩) bs.length c) ∧ w.ownsRow B 5 1 (.slice (some ⟨g, 0, none⟩) bs.length c) bs.length bs ∧ N ≤ c ∧ g ≠ b ∧ g < w.heap.size ∧ 0 < c
set_option maxRecDepth 100000 in
set_option maxHeartbeats 1000000 in
theorem bwrite (B b N : Nat) (bs : List Value) (z : Int) (w : World) (h : BSt B w b N bs) (hN : bs.length + 1 ≤ N) (hB : B ≤ b) :
    Calls Tryd.prog 59 #[.pointer (some ⟨b, 0, none⟩), .int .u8 z] w fun e w' => e = .returned .nilIface ∧ Hid (BSt B w' b N (bs ++ [.int .u8 z]) ∧ Below B w w') := by
  rcases h with ⟨h0, _⟩ | ⟨g, c, h1, h2, h3, h4, h5, h6⟩
  · omega
  have HB : Hid (BB w b (.pointer (some ⟨b, 0, none⟩)) (.slice (some ⟨g, 0, none⟩) bs.length c) ∧ w.ownsRow B 5 1 (.slice (some ⟨g, 0, none⟩) bs.length c) bs.length bs) := ⟨h1, h2⟩
  have c1 := h1.c1
  have hlt := h1.lt
  have f1 := h1.fz 1
  clear h1 h2
  go_enter Tryd.func59, Tryd.ntmps59
  go_wp2_with fail
  refine (check_used b _ _ HB.out.1).mono ?_
  rintro e w1 ⟨rfl, rfl⟩
  obtain ⟨i5, hi, hz0, hz1, hz2⟩ := info_parts Tryd.info5
  have HI : Hid (Tryd.prog.info? 5 = some i5 ∧ i5.size = 1) := ⟨hi, hz1⟩
  clear hi hz0 hz1 hz2
  have HO : Hid ((w1.alloc (.cells #[.int .u8 z] 5)).ownsRow B 5 1 (.slice (some ⟨g, 0, none⟩) bs.length c) bs.length bs) := HB.out.2.alloc _
  have HC : Hid (∀ j u, ([.int .u8 z] : List Value)[j]? = some u → (w1.alloc (.cells #[.int .u8 z] 5)).cell? ((⟨w1.heap.size, 0, none⟩ : Addr).add j) = some u) := by
    intro j u hu
    have hj : j = 0 := by have := (List.getElem?_eq_some_iff.1 hu).1; simp at this; omega
    subst hj
    simp at hu
    subst hu
    simp [go_sem, Addr.add]
  go_wp2_with (at_builtin; refine wpList_append_fits _ rfl _ _ 33 rfl B 5 i5 1 Tryd.underlying33 HI.out.1 HI.out.2 g bs.length c bs rfl HO.out ⟨w1.heap.size, 0, none⟩ 1 1 [.int .u8 z] rfl rfl HC.out (by intro u hu; simp at hu; subst hu; rfl) (by omega) ?_; intro w2 hown2 hgr2; have hbk : Hid (w2.heap[b]? = w1.heap[b]?) := (hgr2.block b (by simp; omega) (fun e => h4 (Option.some.inj e).symm)).trans (Below.heap_alloc _ _ b hlt); have d1 := (HB.out.1.same hbk.out).c1; have d2 := (HB.out.1.same hbk.out).fz 1; have HG2 : Hid ((w1.alloc (.cells #[.int .u8 z] 5)).grownBy w2 (some g) ∧ w2.ownsRow B 5 1 (.slice (some ⟨g, 0, none⟩) (bs.length + 1) c) (bs.length + 1) (bs ++ [.int .u8 z])) := ⟨hgr2, hown2⟩; clear hown2 hgr2)
  go_ret
  have hBg : B ≤ g := (HB.out.2.lt g rfl).1
  have hgs : g < w2.heap.size := (HG2.out.2.lt g rfl).2
  have hb2 := HB.out.1.same hbk.out
  have hbel : Below B w1 w2 := ((Below.refl B w1).alloc (by omega) _).grown HG2.out.1 (by simp; omega) (fun k e => by have := Option.some.inj e; omega)
  refine ⟨rfl, .inr ⟨g, c, ?_, ?_, h3, h4, by simpa [World.setCell] using hgs, h6⟩, hbel.setCell hB _⟩
  · have := heap_set hb2 1 (.slice (some ⟨g, 0, none⟩) (bs.length + 1) c)
    simpa [BB] using this
  · have := HG2.out.2.kept (w' := w2.setCell ⟨b, 1, none⟩ (.slice (some ⟨g, 0, none⟩) (bs.length + 1) c)) (row := some b) ⟨rfl, rfl, rfl, by simp [World.setCell], fun k _ hk => Below.heap_setCell _ _ _ _ (fun e => hk (by simp [e]))⟩ (.inr (fun e => h4 (Option.some.inj e)))
    simpa using this
theorem freeze_other (w : World) (g n b : Nat) (h : g ≠ b) : (w.freeze ⟨g, 0, none⟩ n).heap[b]? = w.heap[b]? := by
  unfold World.freeze
  split
  · rfl
  · simp [Array.getElem?_modify, h]
set_option maxRecDepth 100000 in
set_option maxHeartbeats 1000000 in
theorem bstring (B b N : Nat) (l : List UInt8) (w : World) (h : BSt B w b N (Lib.byteCells l)) (hN : l.length = N) (hl : l.length ≤ 9223372036854775807) :
    Calls Tryd.prog 12 #[.pointer (some ⟨b, 0, none⟩)] w fun e w' => e = .returned (.string ⟨l.toArray⟩) ∧ Hid (Below B w w') := by
  rcases h with ⟨h0, h1, h2⟩ | ⟨g, c, h1, h2, h3, h4, h5, h6⟩
  · have hl0 : l = [] := List.eq_nil_of_length_eq_zero (by omega)
    subst hl0
    have c1 := h2.c1
    have hlt := h2.lt
    have s1 : ∀ (W : World) (ts : Array TypeId) (ty : TypeId), (Builtin.unsafeSliceData_ ts ty #[.slice none 0 0]).run Tryd.prog W = .ok (.pointer none) W := fun W ts ty => Lib.run_unsafeSliceData_nil W ts ty 0 0
    have s2 : ∀ (W : World) (ty : TypeId), (Builtin.unsafeString_ #[62, 3] ty #[.pointer none, .int .i64 0]).run Tryd.prog W = .ok (.string .empty) W := fun W ty => Lib.run_unsafeString_none W 62 3 ty none
    clear h1 h2
    go_enter Tryd.func12, Tryd.ntmps12
    go_wp2_with fail
    go_region_held3 (fun W => W.cell? ⟨b, 1, none⟩ = some (.slice none 0 0)) (go_keep) (fail)
    go_wp2
    go_ret
    exact ⟨rfl, (Below.refl _ _).drew⟩
  · rw [Lib.byteCells_length] at h1 h2
    have c1 := h1.c1
    have hlt := h1.lt
    have s1 : ∀ (W : World) (ts : Array TypeId) (ty : TypeId), (Builtin.unsafeSliceData_ ts ty #[.slice (some ⟨g, 0, none⟩) l.length c]).run Tryd.prog W = .ok (.pointer (some ⟨g, 0, none⟩)) W := fun W ts ty => Lib.run_unsafeSliceData_row W ts ty _ _ _ (by omega)
    by_cases h0 : l = []
    · subst h0
      have s2 : ∀ (W : World) (ty : TypeId), (Builtin.unsafeString_ #[62, 3] ty #[.pointer (some ⟨g, 0, none⟩), .int .i64 0]).run Tryd.prog W = .ok (.string .empty) W := fun W ty => Lib.run_unsafeString_none W 62 3 ty _
      clear h1 h2 hN
      simp only [List.length_nil] at c1 s1
      go_enter Tryd.func12, Tryd.ntmps12
      go_wp2_with fail
      go_region_held3 (fun W => W.cell? ⟨b, 1, none⟩ = some (.slice (some ⟨g, 0, none⟩) 0 c)) (go_keep) (fail)
      go_wp2
      go_ret
      exact ⟨rfl, (Below.refl _ _).drew⟩
    · have hBg := (h2.lt g rfl).1
      have s2 : ∀ ty : TypeId, (Builtin.unsafeString_ #[62, 3] ty #[.pointer (some ⟨g, 0, none⟩), .int .i64 l.length]).run Tryd.prog w.drew = .ok (.string ⟨l.toArray⟩) (w.drew.freeze ⟨g, 0, none⟩ l.length) := by
        intro ty
        have hsh : w.drew.shape? g = some (5, c) := by
          rcases h2.2 with ⟨e, _⟩ | ⟨g', cap, cur, e, _, hg, _, _, hs, _⟩
          · cases e
          · have e1 : g = g' := by injection e with e1 _ _; injection e1 with e1; injection e1
            have e2 : c = cap := by injection e
            subst e1; subst e2
            have hg' : w.drew.heap[g]? = some (.cells cur 5 (0, 0)) := hg
            simp [World.shape?, hg', hs]
        exact Lib.run_unsafeString_row w.drew 62 3 ty 5 Tryd.underlying62 (by kernel_rfl) g c hsh l h0 (by omega) hl (fun j x hx => by
          have := h2.cells (g := g) rfl j (.int .u8 x.toNat) (by simp [Lib.byteCells, hx])
          exact this)
      have HF : Hid (Below B w (w.drew.freeze ⟨g, 0, none⟩ l.length)) := Lib.below_freeze (Below.refl _ _).drew hBg _
      have hfc : (w.drew.freeze ⟨g, 0, none⟩ l.length).cell? ⟨b, 1, none⟩ = some (.slice (some ⟨g, 0, none⟩) l.length c) := (World.cell?_of_block (w := w) (a := ⟨b, 1, none⟩) (freeze_other w.drew g l.length b h4)).trans c1
      clear h1 h2 hN
      generalize hll : l.length = ll at *
      clear hll
      go_enter Tryd.func12, Tryd.ntmps12
      go_wp2_with fail
      go_region_held3 (fun W => W.cell? ⟨b, 1, none⟩ = some (.slice (some ⟨g, 0, none⟩) ll c)) (go_keep) (fail)
      go_wp2
      go_ret
      exact ⟨rfl, HF.out⟩
end Go.Proofs.YtoppdmlmhigogaaDoor
namespace Go.Proofs.YtoppdmlmhigogaaDoor
open Go.ChangeShapes Go.WideShapes Go.ChangeAt Go.RowKit
set_option linter.unusedVariables false
set_option linter.unusedSimpArgs false
/-- A Builder that knows itself, and holds bs. -/
def GU (B : Nat) (w : World) (b : Nat) (bs : List Value) : Prop :=
  ∃ v, BB w b (.pointer (some ⟨b, 0, none⟩)) v ∧ w.ownsRow B 5 1 v bs.length bs ∧ v.ownBlock ≠ some b
/-- A Builder that holds bs. -/
def GS (B : Nat) (w : World) (b : Nat) (bs : List Value) : Prop :=
  (BB w b (.pointer none) (.slice none 0 0) ∧ bs = []) ∨ (GU B w b bs ∧ bs ≠ [])
theorem GS.fresh (w : World) : GS w.heap.size (w.alloc (.cells #[.pointer none, .slice none 0 0] 46)) w.heap.size [] :=
  .inl ⟨heap_alloc_new _ _, rfl⟩
theorem row_shape {B : Nat} {w : World} {e z : Nat} {v : Value} {n : Nat} {bs : List Value} (h : w.ownsRow B e z v n bs) : ∃ ao c, v = .slice ao n c := by
  rcases h.2 with ⟨rfl, rfl⟩ | ⟨g, cap, cur, rfl, _⟩
  · exact ⟨none, 0, rfl⟩
  · exact ⟨_, _, rfl⟩
theorem row_set {B : Nat} {w : World} {b : Nat} {v : Value} {n : Nat} {bs : List Value} (h : w.ownsRow B 5 1 v n bs) (hne : v.ownBlock ≠ some b) (i : Nat) (x : Value) : (w.setCell ⟨b, i, none⟩ x).ownsRow B 5 1 v n bs :=
  h.kept (row := some b) ⟨rfl, rfl, rfl, by simp [World.setCell], fun k _ hk => Below.heap_setCell _ _ _ _ (fun e => hk (by simp [e]))⟩ (.inr hne)
theorem bcheck_any (B b : Nat) (bs : List Value) (w : World) (h : GS B w b bs) (hB : B ≤ b) :
    Calls Tryd.prog 48 #[.pointer (some ⟨b, 0, none⟩)] w fun e w' => e = .returned (.tuple #[]) ∧ Hid (GU B w' b bs ∧ Below B w w') := by
  rcases h with ⟨h1, rfl⟩ | ⟨⟨v, h1, h3, h4⟩, _⟩
  · refine (check_fresh b _ w h1).mono ?_
    rintro e w' ⟨rfl, rfl⟩
    refine ⟨rfl, ⟨.slice none 0 0, ?_, World.ownsRow_nil _ _ _ _, by simp [Value.ownBlock]⟩, (Below.refl _ _).setCell hB _⟩
    have := heap_set h1 0 (.pointer (some ⟨b, 0, none⟩))
    simpa [BB] using this
  · refine (check_used b v w h1).mono ?_
    rintro e w' ⟨rfl, rfl⟩
    exact ⟨rfl, ⟨v, h1, h3, h4⟩, Below.refl _ _⟩
set_option maxRecDepth 100000 in
set_option maxHeartbeats 1000000 in
theorem wbyte (B b : Nat) (bs : List Value) (z : Int) (w : World) (h : GS B w b bs) (hB : B ≤ b) (hl : bs.length + 1 ≤ 140737488355328) :
    Calls Tryd.prog 59 #[.pointer (some ⟨b, 0, none⟩), .int .u8 z] w fun e w' => e = .returned .nilIface ∧ Hid (GS B w' b (bs ++ [.int .u8 z]) ∧ Below B w w') := by
  have HG : Hid (GS B w b bs) := h
  clear h
  go_enter Tryd.func59, Tryd.ntmps59
  go_wp2_with fail
  refine (bcheck_any B b bs _ HG.out hB).mono ?_
  rintro e w1 ⟨rfl, H1⟩
  obtain ⟨v, h1, h2, h4⟩ := H1.out.1
  have HB1 : Hid (Below B w w1) := H1.out.2
  have HB : Hid (BB w1 b (.pointer (some ⟨b, 0, none⟩)) v ∧ w1.ownsRow B 5 1 v bs.length bs) := ⟨h1, h2⟩
  have c1 := h1.c1
  have hlt := h1.lt
  clear h1 h2 H1 HG
  obtain ⟨i5, hi, hz0, hz1, hz2⟩ := info_parts Tryd.info5
  have HI : Hid (Tryd.prog.info? 5 = some i5 ∧ i5.zero = some (.int .u8 0) ∧ i5.size = 1 ∧ i5.bytes = 1) := ⟨hi, hz0, hz1, hz2⟩
  clear hi hz0 hz1 hz2
  have HO : Hid ((w1.alloc (.cells #[.int .u8 z] 5)).ownsRow B 5 1 v bs.length bs) := HB.out.2.alloc _
  have HC : Hid (∀ j u, ([.int .u8 z] : List Value)[j]? = some u → (w1.alloc (.cells #[.int .u8 z] 5)).cell? ((⟨w1.heap.size, 0, none⟩ : Addr).add j) = some u) := by
    intro j u hu
    have hj : j = 0 := by have := (List.getElem?_eq_some_iff.1 hu).1; simp at this; omega
    subst hj
    simp at hu
    subst hu
    simp [go_sem, Addr.add]
  go_wp2_with (at_builtin; refine wpList_append_own _ rfl _ _ 33 rfl B 5 i5 (.int .u8 0) 1 1 Tryd.underlying33 HI.out.1 HI.out.2.1 HI.out.2.2.1 HI.out.2.2.2 rfl (by decide) v bs.length bs rfl HO.out ⟨w1.heap.size, 0, none⟩ 1 1 [.int .u8 z] rfl rfl HC.out (by intro u hu; simp at hu; subst hu; rfl) (by simp only [maxLen]; omega) (by omega) (by simp; omega) ?_; intro v' w2 hown2 hgr2 hnil; obtain ⟨ao, cc, rfl⟩ := row_shape hown2; have hbk : Hid (w2.heap[b]? = w1.heap[b]?) := (hgr2.block b (by simp; omega) (fun e => h4 e.symm)).trans (Below.heap_alloc _ _ b hlt); have d1 := (HB.out.1.same hbk.out).c1; have d2 := (HB.out.1.same hbk.out).fz 1; have HG2 : Hid ((w1.alloc (.cells #[.int .u8 z] 5)).grownBy w2 v.ownBlock ∧ w2.ownsRow B 5 1 (.slice ao (bs.length + 1) cc) (bs.length + 1) (bs ++ [.int .u8 z])) := ⟨hgr2, hown2⟩; clear hown2 hgr2 hnil)
  go_ret
  have hb2 := HB.out.1.same hbk.out
  have hrow : ∀ g, v.ownBlock = some g → B ≤ g := fun g hg => (HB.out.2.lt g hg).1
  have hbel : Below B w1 w2 := ((Below.refl B w1).alloc (by omega) _).grown HG2.out.1 (by simp; omega) hrow
  have hne : (Value.slice ao (bs.length + 1) cc).ownBlock ≠ some b := by
    intro e
    obtain ⟨_, hc | ⟨g, cap, cur, hv, _, hg, _⟩⟩ := HG2.out.2
    · rw [hc.1] at e; simp [Value.ownBlock] at e
    · rw [hv] at e
      have e2 : g = b := by simpa [Value.ownBlock] using e
      rw [e2] at hg
      have hb3 : w2.heap[b]? = _ := hb2
      rw [hb3] at hg
      injection hg with hg
      injection hg with _ hg _
      exact absurd hg (by decide)
  refine ⟨rfl, .inr ⟨⟨.slice ao (bs.length + 1) cc, ?_, ?_, hne⟩, by simp⟩, HB1.out.trans (hbel.setCell hB _)⟩
  · have := heap_set hb2 1 (.slice ao (bs.length + 1) cc)
    simpa [BB] using this
  · have := row_set HG2.out.2 hne 1 (.slice ao (bs.length + 1) cc)
    simpa using this
set_option maxRecDepth 100000 in
set_option maxHeartbeats 1000000 in
theorem wstring (B b : Nat) (l : List UInt8) (w : World) (h : GS B w b (Lib.byteCells l)) (hl : l.length ≤ 9223372036854775807) :
    Calls Tryd.prog 12 #[.pointer (some ⟨b, 0, none⟩)] w fun e w' => e = .returned (.string ⟨l.toArray⟩) ∧ Hid (Below B w w') := by
  rcases h with ⟨h1, h0⟩ | ⟨⟨v, h1, h2, h4⟩, hne⟩
  · have hl0 : l = [] := by
      have := congrArg List.length h0
      rw [Lib.byteCells_length] at this
      exact List.eq_nil_of_length_eq_zero this
    subst hl0
    have c1 := h1.c1
    have s1 : ∀ (W : World) (ts : Array TypeId) (ty : TypeId), (Builtin.unsafeSliceData_ ts ty #[.slice none 0 0]).run Tryd.prog W = .ok (.pointer none) W := fun W ts ty => Lib.run_unsafeSliceData_nil W ts ty 0 0
    have s2 : ∀ (W : World) (ty : TypeId), (Builtin.unsafeString_ #[62, 3] ty #[.pointer none, .int .i64 0]).run Tryd.prog W = .ok (.string .empty) W := fun W ty => Lib.run_unsafeString_none W 62 3 ty none
    clear h1 h0
    go_enter Tryd.func12, Tryd.ntmps12
    go_wp2_with fail
    go_region_held3 (fun W => W.cell? ⟨b, 1, none⟩ = some (.slice none 0 0)) (go_keep) (fail)
    go_wp2
    go_ret
    exact ⟨rfl, (Below.refl _ _).drew⟩
  · refine bstring B b l.length l w (.inr ?_) rfl hl
    have hlen := Lib.byteCells_length l
    have hpos : 0 < (Lib.byteCells l).length := List.length_pos_iff.2 hne
    rcases h2.2 with ⟨_, h0⟩ | ⟨g, cap, cur, rfl, hBg, hg, hn, hm, hs, hx⟩
    · omega
    · exact ⟨g, cap, h1, h2, by omega, fun e => h4 (by rw [e]; rfl), (h2.lt g rfl).2, by omega⟩
end Go.Proofs.YtoppdmlmhigogaaDoor
namespace Go.Proofs.YtoppdmlmhigogaaDoor
open Go.ChangeShapes Go.WideShapes Go.ChangeAt Go.RowKit
set_option linter.unusedVariables false
set_option linter.unusedSimpArgs false
/-- Bytes that a backslash stands ahead of. -/
def spc (c : Int) : Bool := c == 46 || c == 92 || c == 34 || c == 59 || c == 40 || c == 41 || c == 64 || c == 36
def wst (c : Int) : Int := if c < 33 ∨ 126 < c then 2 else if spc c then 1 else 0
/-- How a byte is written. -/
def tx1 (c : Int) : List Int := if c < 33 ∨ 126 < c then [92, 48 + c / 100, 48 + c / 10 % 10, 48 + c % 10] else if spc c then [92, c] else [c]
def tx (l : List Int) : List Int := l.flatMap tx1
theorem tx_snoc (l : List Int) (c : Int) : tx (l ++ [c]) = tx l ++ tx1 c := by simp [tx]
theorem tx1_len (c : Int) : (tx1 c).length ≤ 4 ∧ 1 ≤ (tx1 c).length := by unfold tx1; split <;> (try split) <;> simp
theorem tx_len (l : List Int) : (tx l).length ≤ 4 * l.length := by
  induction l with
  | nil => simp [tx]
  | cons c l ih =>
    have := tx1_len c
    simp only [tx, List.flatMap_cons, List.length_append, List.length_cons] at ih ⊢
    omega
theorem tx1_bd (c : Int) (h : 0 ≤ c ∧ c ≤ 255) : ∀ z ∈ tx1 c, 0 ≤ z ∧ z ≤ 255 := by
  intro z hz
  unfold tx1 at hz
  split at hz
  · simp only [List.mem_cons, List.mem_nil_iff, or_false] at hz
    omega
  · split at hz
    · simp only [List.mem_cons, List.mem_nil_iff, or_false] at hz
      omega
    · simp only [List.mem_cons, List.mem_nil_iff, or_false] at hz
      omega
theorem tx_bd (l : List Int) (h : ∀ z ∈ l, 0 ≤ z ∧ z ≤ 255) : ∀ z ∈ tx l, 0 ≤ z ∧ z ≤ 255 := by
  intro z hz
  simp only [tx, List.mem_flatMap] at hz
  obtain ⟨c, hc, hz⟩ := hz
  exact tx1_bd c (h c hc) z hz
theorem spc_cases (c : Int) : (c = 46 ∨ c = 92 ∨ c = 34 ∨ c = 59 ∨ c = 40 ∨ c = 41 ∨ c = 64 ∨ c = 36) ∨ (spc c = false ∧ (c == 46) = false ∧ (c == 92) = false ∧ (c == 34) = false ∧ (c == 59) = false ∧ (c == 40) = false ∧ (c == 41) = false ∧ (c == 64) = false ∧ (c == 36) = false ∧ (c < 40 ∨ 41 < c)) := by
  by_cases h : c = 46 ∨ c = 92 ∨ c = 34 ∨ c = 59 ∨ c = 40 ∨ c = 41 ∨ c = 64 ∨ c = 36
  · exact .inl h
  · right
    have e1 : ¬ c = 46 := by omega
    have e2 : ¬ c = 92 := by omega
    have e3 : ¬ c = 34 := by omega
    have e4 : ¬ c = 59 := by omega
    have e5 : ¬ c = 40 := by omega
    have e6 : ¬ c = 41 := by omega
    have e7 : ¬ c = 64 := by omega
    have e8 : ¬ c = 36 := by omega
    simp [spc, e1, e2, e3, e4, e5, e6, e7, e8]
    omega
set_option maxRecDepth 100000 in
set_option maxHeartbeats 2000000 in
theorem written_any (c : Int) (w : World) (h : 0 ≤ c ∧ c ≤ 255) : Calls Tryd.prog 58 #[.int .u8 c] w fun e w' => e = .returned (.int .i64 (wst c)) ∧ w' = w := by
  by_cases hu : c < 33 ∨ 126 < c
  · have HW : Hid (wst c = 2) := by show _ = _; unfold wst; rw [if_pos hu]
    rcases hu with hu | hu
    all_goals
      go_enter Tryd.func58, Tryd.ntmps58
      go_wp2
      go_ret
      exact ⟨by rw [HW.out]; rfl, rfl⟩
  · have h1 : ¬ c < 33 := by omega
    have h2 : ¬ 126 < c := by omega
    have hs := spc_cases c
    have HW : Hid (wst c = if spc c then 1 else 0) := by show _ = _; unfold wst; rw [if_neg hu]
    clear hu
    rcases hs with hs | ⟨hs, e1, e2, e3, e4, e5, e6, e7, e8, hor⟩
    · rcases hs with rfl | rfl | rfl | rfl | rfl | rfl | rfl | rfl
      all_goals
        clear HW
        go_enter Tryd.func58, Tryd.ntmps58
        go_wp2
        go_ret
        exact ⟨rfl, rfl⟩
    · rw [hs] at HW
      clear hs e5 e6
      rcases hor with ho | ho
      all_goals
        go_enter Tryd.func58, Tryd.ntmps58
        go_wp2
        go_ret
        exact ⟨by rw [HW.out]; rfl, rfl⟩
theorem bc_txt (l : List Int) (h : ∀ z ∈ l, 0 ≤ z ∧ z ≤ 255) : Lib.byteCells (txt l) = l.map (Value.int .u8) := by
  unfold Lib.byteCells txt
  rw [List.map_map]
  apply List.map_congr_left
  intro z hz
  have := h z hz
  simp
  omega
theorem nums_all' (s : ByteArray) : ∀ z ∈ nums s, 0 ≤ z ∧ z ≤ 255 := by
  intro z hz
  simp only [nums, List.mem_map] at hz
  obtain ⟨b, _, rfl⟩ := hz
  have := b.toNat_lt
  omega
set_option maxRecDepth 100000 in
set_option maxHeartbeats 2000000 in
theorem text_any (s : ByteArray) (w : World) (hs : s.size ≤ 35184372088000) :
    Calls Tryd.prog 43 #[.string s] w fun e w' => e = .returned (.string ⟨(txt (tx (nums s))).toArray⟩) ∧ Hid (Below w.heap.size w w') := by
  have H0 : Hid (GS w.heap.size (w.alloc (.cells #[.pointer none, .slice none 0 0] 46)) w.heap.size [] ∧ Below w.heap.size w (w.alloc (.cells #[.pointer none, .slice none 0 0] 46))) := ⟨GS.fresh w, (Below.refl _ _).alloc (Nat.le_refl _) _⟩
  go_enter Tryd.func43, Tryd.ntmps43
  go_wp2_with fail
  go_loopw [8] (fun x wr => ∃ k : Nat, k ≤ s.size ∧ x = .int .i64 k ∧ Hid (GS w.heap.size wr w.heap.size ((tx ((nums s).take k)).map (Value.int .u8)) ∧ Below w.heap.size w wr)) (fun x _ => s.size - (intOf x).toNat)
  case atStart => exact ⟨0, Nat.zero_le _, rfl, H0⟩
  case round =>
    obtain ⟨k, hk, rfl, HW⟩ := hrel
    clear H0
    by_cases hlt : k < s.size
    · have hlt' : (k : Int) < (s.size : Int) := by omega
      have hbd := nums_bd s k
      have HT : Hid ((nums s).take (k + 1) = (nums s).take k ++ [(nums s).getD k 0]) := take_snoc _ _ (by rw [nums_len]; exact hlt)
      rw [nums_at s k hlt] at hbd HT
      have hln : (tx ((nums s).take k)).length ≤ 4 * k := by
        have h1 := tx_len ((nums s).take k)
        have h2 : ((nums s).take k).length ≤ k := by simp; omega
        omega
      have HN : Hid (tx ((nums s).take (k + 1)) = tx ((nums s).take k) ++ tx1 (s[k].toNat : Int)) := by show _ = _; rw [HT.out, tx_snoc]
      have HM : Hid (((tx ((nums s).take k)).map (Value.int .u8)).length = (tx ((nums s).take k)).length) := (show _ = _ by simp)
      have HWR : Hid (∀ W, Calls Tryd.prog 58 #[.int .u8 (s[k].toNat : Int)] W fun e w' => e = .returned (.int .i64 (wst (s[k].toNat : Int))) ∧ w' = W) := fun W => written_any _ W hbd
      by_cases hu : (s[k].toNat : Int) < 33 ∨ 126 < (s[k].toNat : Int)
      · have hw : wst (s[k].toNat : Int) = 2 := by unfold wst; rw [if_pos hu]
        have HX : Hid (tx1 (s[k].toNat : Int) = [92, 48 + (s[k].toNat : Int) / 100, 48 + (s[k].toNat : Int) / 10 % 10, 48 + (s[k].toNat : Int) % 10]) := by show _ = _; unfold tx1; rw [if_pos hu]
        rw [hw] at HWR
        clear hu hw
        go_wp2_with fail
        refine (HWR.out _).mono ?_
        rintro e w1 ⟨rfl, rfl⟩
        go_wp2_with fail
        refine (wbyte w.heap.size w.heap.size _ 92 _ HW.out.1 (Nat.le_refl _) (by rw [HM.out]; omega)).mono ?_
        rintro e w2 ⟨rfl, H2⟩
        go_wp2_with fail
        refine (wbyte w.heap.size w.heap.size _ _ _ H2.out.1 (Nat.le_refl _) (by simp only [List.length_append, List.length_singleton, HM.out]; omega)).mono ?_
        rintro e w3 ⟨rfl, H3⟩
        go_wp2_with fail
        refine (wbyte w.heap.size w.heap.size _ _ _ H3.out.1 (Nat.le_refl _) (by simp only [List.length_append, List.length_singleton, HM.out]; omega)).mono ?_
        rintro e w4 ⟨rfl, H4⟩
        go_wp2_with fail
        refine (wbyte w.heap.size w.heap.size _ _ _ H4.out.1 (Nat.le_refl _) (by simp only [List.length_append, List.length_singleton, HM.out]; omega)).mono ?_
        rintro e w5 ⟨rfl, H5⟩
        go_wp2
        refine ⟨⟨k + 1, by omega, by go_num, ?_, ((HW.out.2.trans H2.out.2).trans H3.out.2).trans (H4.out.2.trans H5.out.2)⟩, by simp [intOf]; omega⟩
        rw [HN.out, HX.out, List.map_append]
        simpa only [List.map_cons, List.map_nil, List.append_assoc, List.cons_append, List.nil_append] using H5.out.1
      · by_cases hp : spc (s[k].toNat : Int) = true
        · have hw : wst (s[k].toNat : Int) = 1 := by unfold wst; rw [if_neg hu, if_pos hp]
          have HX : Hid (tx1 (s[k].toNat : Int) = [92, (s[k].toNat : Int)]) := by show _ = _; unfold tx1; rw [if_neg hu, if_pos hp]
          rw [hw] at HWR
          clear hu hw hp
          go_wp2_with fail
          refine (HWR.out _).mono ?_
          rintro e w1 ⟨rfl, rfl⟩
          go_wp2_with fail
          refine (wbyte w.heap.size w.heap.size _ 92 _ HW.out.1 (Nat.le_refl _) (by rw [HM.out]; omega)).mono ?_
          rintro e w2 ⟨rfl, H2⟩
          go_wp2_with fail
          refine (wbyte w.heap.size w.heap.size _ _ _ H2.out.1 (Nat.le_refl _) (by simp only [List.length_append, List.length_singleton, HM.out]; omega)).mono ?_
          rintro e w3 ⟨rfl, H3⟩
          go_wp2
          refine ⟨⟨k + 1, by omega, by go_num, ?_, (HW.out.2.trans H2.out.2).trans H3.out.2⟩, by simp [intOf]; omega⟩
          rw [HN.out, HX.out, List.map_append]
          simpa only [List.map_cons, List.map_nil, List.append_assoc, List.cons_append, List.nil_append] using H3.out.1
        · have hp' : spc (s[k].toNat : Int) = false := by simpa using hp
          have hw : wst (s[k].toNat : Int) = 0 := by unfold wst; rw [if_neg hu, hp']; rfl
          have HX : Hid (tx1 (s[k].toNat : Int) = [(s[k].toNat : Int)]) := by show _ = _; unfold tx1; rw [if_neg hu, hp']; rfl
          rw [hw] at HWR
          clear hu hw hp hp'
          go_wp2_with fail
          refine (HWR.out _).mono ?_
          rintro e w1 ⟨rfl, rfl⟩
          go_wp2_with fail
          refine (wbyte w.heap.size w.heap.size _ _ _ HW.out.1 (Nat.le_refl _) (by rw [HM.out]; omega)).mono ?_
          rintro e w2 ⟨rfl, H2⟩
          go_wp2
          refine ⟨⟨k + 1, by omega, by go_num, ?_, HW.out.2.trans H2.out.2⟩, by simp [intOf]; omega⟩
          rw [HN.out, HX.out, List.map_append]
          simpa only [List.map_cons, List.map_nil, List.append_assoc, List.cons_append, List.nil_append] using H2.out.1
    · have hge : (s.size : Int) ≤ (k : Int) := by omega
      have ek : (nums s).take k = nums s := List.take_of_length_le (by rw [nums_len]; omega)
      have hg := HW.out.1
      rw [ek, ← bc_txt _ (tx_bd _ (nums_all' s))] at hg
      have hl : (txt (tx (nums s))).length ≤ 9223372036854775807 := by
        have := tx_len (nums s)
        rw [nums_len] at this
        rw [txt_len]; omega
      have HG : Hid (GS w.heap.size wr w.heap.size (Lib.byteCells (txt (tx (nums s))))) := hg
      clear hg ek
      generalize hLL : txt (tx (nums s)) = L at *
      have HLL : Hid (txt (tx (nums s)) = L) := hLL
      clear hLL
      go_wp2_with fail
      refine (wstring w.heap.size w.heap.size L _ HG.out hl).mono ?_
      rintro e w2 ⟨rfl, H2⟩
      go_wp2
      go_ret
      exact ⟨by rw [HLL.out]; rfl, HW.out.2.trans H2.out⟩
end Go.Proofs.YtoppdmlmhigogaaDoor
namespace Go.Proofs.YtoppdmlmhigogaaDoor
open Go.ChangeShapes Go.WideShapes Go.ChangeAt Go.RowKit
set_option linter.unusedVariables false
set_option linter.unusedSimpArgs false
def fz (z : Int) : Int := if 65 ≤ z ∧ z ≤ 90 then z + 32 else z
theorem txt_nums (s : ByteArray) : (⟨(txt (nums s)).toArray⟩ : ByteArray) = s := by
  have : txt (nums s) = s.data.toList := by
    unfold nums txt
    rw [List.map_map]
    conv => rhs; rw [← List.map_id s.data.toList]
    apply List.map_congr_left
    intro b _
    simp
  rw [this]
end Go.Proofs.YtoppdmlmhigogaaDoor
namespace Go.Proofs.YtoppdmlmhigogaaDoor
open Go.ChangeShapes Go.WideShapes Go.ChangeAt Go.RowKit
set_option linter.unusedVariables false
set_option linter.unusedSimpArgs false
theorem ba_loop (s : ByteArray) (n : Nat) : ∀ i r, s.size - i = n → ByteArray.toList.loop s i r = r.reverse ++ s.data.toList.drop i := by
  induction n with
  | zero =>
    intro i r h
    unfold ByteArray.toList.loop
    rw [if_neg (by omega), List.drop_eq_nil_of_le (by simp; omega), List.append_nil]
  | succ n ih =>
    intro i r h
    unfold ByteArray.toList.loop
    have hi : i < s.data.toList.length := by simp; omega
    rw [if_pos (by omega), ih (i + 1) _ (by omega), List.reverse_cons, List.append_assoc, List.drop_eq_getElem_cons hi]
    congr 1
    show (s.data[i]! :: s.data.toList.drop (i + 1)) = _
    have h2 : i < s.data.size := by simpa using hi
    rw [getElem!_pos s.data i h2]; rfl
theorem ba_toList (s : ByteArray) : s.toList = s.data.toList := by
  unfold ByteArray.toList
  rw [ba_loop s _ 0 [] rfl]
  simp
theorem ba_inj {a b : ByteArray} (h : a.toList = b.toList) : a = b := by
  rw [ba_toList, ba_toList] at h
  cases a; cases b
  simp at h
  rw [h]
end Go.Proofs.YtoppdmlmhigogaaDoor
namespace Go.Proofs.YtoppdmlmhigogaaDoor
open Go.ChangeShapes Go.WideShapes Go.ChangeAt Go.RowKit
set_option linter.unusedVariables false
set_option linter.unusedSimpArgs false
theorem nums_all (s : ByteArray) : ∀ z ∈ nums s, 0 ≤ z ∧ z ≤ 255 := by
  intro z hz
  simp only [nums, List.mem_map] at hz
  obtain ⟨b, _, rfl⟩ := hz
  have := b.toNat_lt
  omega
/-- The label's bytes and the place behind them; none, if a byte can't be read. -/
def go (l : List Int) (p : Nat) (out : List Int) : Option (List Int × Nat) :=
  if h : p < l.length ∧ l.getD p 0 ≠ 46 then
    if hn : (fr (l.drop p)).2 ≤ 0 then none
    else go l (p + (fr (l.drop p)).2.toNat) (out ++ [(fr (l.drop p)).1])
  else some (out, p)
termination_by l.length - p
decreasing_by omega
def chk (n : Nat) : Int := if 1 ≤ n ∧ n ≤ 63 then 0 else 4
set_option maxRecDepth 100000 in
set_option maxHeartbeats 400000 in
theorem chk_any (s : ByteArray) (w : World) (hs : s.size ≤ 9223372036854775807) :
    Calls Tryd.prog 24 #[.string s] w fun e w' => e = .returned (.int .i64 (chk s.size)) ∧ w' = w := by
  by_cases h : 1 ≤ s.size ∧ s.size ≤ 63
  · have h1 : ¬ (s.size : Int) < 1 := by omega
    have h2 : ¬ (63 : Int) < (s.size : Int) := by omega
    have HE : Hid (chk s.size = 0) := by show _ = _; unfold chk; rw [if_pos h]
    clear h
    go_enter Tryd.func24, Tryd.ntmps24
    go_wp2
    go_ret
    exact ⟨by rw [HE.out]; rfl, rfl⟩
  · have HE : Hid (chk s.size = 4) := by show _ = _; unfold chk; rw [if_neg h]
    have ho : (s.size : Int) < 1 ∨ (63 : Int) < (s.size : Int) := by omega
    clear h
    rcases ho with ho | ho
    all_goals
      go_enter Tryd.func24, Tryd.ntmps24
      go_wp2
      go_ret
      exact ⟨by rw [HE.out]; rfl, rfl⟩
theorem txt_size (l : List Int) : (⟨(txt l).toArray⟩ : ByteArray).size = l.length := by
  show (txt l).toArray.size = _
  simp [txt]
end Go.Proofs.YtoppdmlmhigogaaDoor
namespace Go.Proofs.YtoppdmlmhigogaaDoor
open Go.ChangeShapes Go.WideShapes Go.ChangeAt Go.RowKit
set_option linter.unusedVariables false
set_option linter.unusedSimpArgs false
/-- The size of a name. -/
def nsz : List ByteArray → Nat
  | [] => 1
  | s :: r => s.size + 1 + nsz r
theorem nsz_snoc (l : List ByteArray) (s : ByteArray) : nsz (l ++ [s]) = nsz l + s.size + 1 := by
  induction l with
  | nil => simp [nsz]; omega
  | cons x l ih => simp only [List.cons_append, nsz, ih]; omega
theorem nsz_le (l : List ByteArray) (k : Nat) : nsz (l.take k) ≤ nsz l := by
  induction l generalizing k with
  | nil => simp [nsz]
  | cons x l ih =>
    cases k with
    | zero => simp [nsz]; omega
    | succ k => simp only [List.take_succ_cons, nsz]; have := ih k; omega
theorem take_snocT (ss : List ByteArray) (k : Nat) (h : k < ss.length) : ss.take (k + 1) = ss.take k ++ [ss[k]] := List.take_succ_eq_append_getElem h
/-- Whether all labels may be; the error of a name. -/
def labsOk (ss : List ByteArray) : Prop := ∀ s ∈ ss, chk s.size = 0
instance (ss : List ByteArray) : Decidable (labsOk ss) := by unfold labsOk; exact inferInstance
def nck (ss : List ByteArray) : Int := if labsOk ss then (if 255 < nsz ss then 5 else 0) else 4
theorem chk_cases (n : Nat) : chk n = 0 ∨ chk n = 4 := by unfold chk; split <;> simp
end Go.Proofs.YtoppdmlmhigogaaDoor
namespace Go.Proofs.YtoppdmlmhigogaaDoor
open Go.ChangeShapes Go.WideShapes Go.ChangeAt Go.RowKit
set_option linter.unusedVariables false
set_option linter.unusedSimpArgs false
/-- What is asked of a name that is read: it lies there, and is not too great. -/
structure Nm (w : World) (a : Option Addr) (n : Nat) (ss : List ByteArray) : Prop where
  rd : RdT w a ss
  len : ss.length = n
  sz : nsz ss ≤ 1000000000000
theorem nsz_len : ∀ l : List ByteArray, l.length + 1 ≤ nsz l
  | [] => by simp [nsz]
  | x :: l => by have := nsz_len l; simp only [List.length_cons, nsz]; omega
theorem nsz_mem : ∀ (l : List ByteArray) (s : ByteArray), s ∈ l → s.size ≤ nsz l
  | x :: l, s, h => by
    simp only [nsz]
    rcases List.mem_cons.1 h with rfl | h
    · omega
    · have := nsz_mem l s h; omega
theorem Nm.below {w w' : World} {a : Option Addr} {n : Nat} {ss : List ByteArray} (h : Nm w a n ss) (hb : Below w.heap.size w w') : Nm w' a n ss := ⟨h.rd.below hb, h.len, h.sz⟩
theorem Nm.n63 {w : World} {a : Option Addr} {n : Nat} {ss : List ByteArray} (h : Nm w a n ss) : n ≤ 1000000000000 := by have := nsz_len ss; have := h.len; have := h.sz; omega
theorem Nm.mem {w : World} {a : Option Addr} {n : Nat} {ss : List ByteArray} (h : Nm w a n ss) (s : ByteArray) (hs : s ∈ ss) : s.size ≤ 1000000000000 := Nat.le_trans (nsz_mem ss s hs) h.sz
theorem nsz_drop (l : List ByteArray) (k : Nat) : nsz (l.drop k) ≤ nsz l := by
  induction l generalizing k with
  | nil => simp [nsz]
  | cons x l ih =>
    cases k with
    | zero => simp
    | succ k => simp only [List.drop_succ_cons, nsz]; have := ih k; omega
theorem Nm.cut {w : World} {a a' : Option Addr} {n : Nat} {ss : List ByteArray} (h : Nm w a n ss) (p : Nat) (ha : p < ss.length → ∀ b o, a = some ⟨b, o, none⟩ → a' = some ⟨b, o + p, none⟩) : Nm w a' (n - p) (ss.drop p) := by
  refine ⟨?_, by rw [List.length_drop, h.len], Nat.le_trans (nsz_drop ss p) h.sz⟩
  have := RdV.cut (w := w) (a := a) (xs := tv ss) h.rd p (tv ss).length (a' := a') (fun hp => ha (by rw [tv_len] at hp; exact hp))
  rw [List.take_of_length_le (by simp), tv_drop] at this
  exact this
theorem nck_small {ss : List ByteArray} (h : nck ss = 0) : nsz ss ≤ 255 ∧ labsOk ss := by
  unfold nck at h
  split at h
  · rename_i h1
    split at h
    · cases h
    · exact ⟨by omega, h1⟩
  · cases h
end Go.Proofs.YtoppdmlmhigogaaDoor
namespace Go.Proofs.YtoppdmlmhigogaaDoor
open Go.ChangeShapes Go.WideShapes Go.ChangeAt Go.RowKit
set_option linter.unusedVariables false
set_option linter.unusedSimpArgs false
/-- A label's text; the text of labels, a . behind each. -/
def tb (s : ByteArray) : ByteArray := ⟨(txt (tx (nums s))).toArray⟩
def ntxt (l : List ByteArray) : ByteArray := l.foldl (fun acc s => acc ++ tb s ++ ⟨#[46]⟩) ⟨#[]⟩
theorem ntxt_snoc (l : List ByteArray) (s : ByteArray) : ntxt (l ++ [s]) = ntxt l ++ tb s ++ ⟨#[46]⟩ := by simp [ntxt, List.foldl_append]
theorem tb_size (s : ByteArray) : (tb s).size ≤ 4 * s.size := by
  have := tx_len (nums s)
  rw [nums_len] at this
  show (txt (tx (nums s))).toArray.size ≤ _
  simp [txt]
  exact this
theorem ntxt_size (l : List ByteArray) : ∀ k, k ≤ l.length → (ntxt (l.take k)).size ≤ 4 * nsz l := by
  intro k
  induction k with
  | zero => intro _; exact Nat.zero_le _
  | succ k ih =>
    intro hk
    have hkl : k < l.length := by omega
    have h0 : ∀ j, j ≤ l.length → (ntxt (l.take j)).size ≤ 4 * nsz (l.take j) := by
      intro j
      induction j with
      | zero => intro _; exact Nat.zero_le _
      | succ j ihj =>
        intro hj
        have hjl : j < l.length := by omega
        rw [take_snocT l j hjl, ntxt_snoc, nsz_snoc, ByteArray.size_append, ByteArray.size_append]
        have := ihj (by omega)
        have := tb_size l[j]
        show _ + _ + 1 ≤ _
        omega
    have := h0 (k + 1) hk
    have := nsz_le l (k + 1)
    omega
/-- What Text answers. -/
def ntext (ss : List ByteArray) : ByteArray × Int := if nck ss = 0 then (if ss.length = 0 then (⟨#[46]⟩, 0) else (ntxt ss, 0)) else (⟨#[]⟩, nck ss)
/-- The bytes of labels, each with its length ahead. -/
def nby (l : List ByteArray) : List Int := l.flatMap fun s => (s.size : Int) :: nums s
theorem nby_len (l : List ByteArray) : (nby l).length + 1 = nsz l := by
  induction l with
  | nil => simp [nby, nsz]
  | cons x l ih => simp only [nby, List.flatMap_cons, List.length_append, List.length_cons, nums_len, nsz] at ih ⊢; omega
end Go.Proofs.YtoppdmlmhigogaaDoor
namespace Go.Proofs.YtoppdmlmhigogaaDoor
open Go.ChangeShapes Go.WideShapes Go.ChangeAt Go.RowKit
set_option linter.unusedVariables false
set_option linter.unusedSimpArgs false
/-- A label out of bytes. -/
def lb (l : List Int) : ByteArray := ⟨(txt l).toArray⟩
end Go.Proofs.YtoppdmlmhigogaaDoor
namespace Go.Proofs.YtoppdmlmhigogaaDoor
open Go Go.Lib
set_option linter.unusedVariables false
/-- The value of digits. -/
def dv (l : List UInt8) : Nat := l.foldl (fun a b => 10 * a + (b.toNat - 48)) 0
theorem dv_snoc (l : List UInt8) (b : UInt8) : dv (l ++ [b]) = 10 * dv l + (b.toNat - 48) := by
  simp [dv, List.foldl_append]
theorem dec_small {n : Nat} (h : n < 10) : decDigits n = [UInt8.ofNat (48 + n)] := by rw [decDigits, dif_pos h]
theorem dec_big {n : Nat} (h : ¬ n < 10) : decDigits n = decDigits (n / 10) ++ [UInt8.ofNat (48 + n % 10)] := by rw [decDigits, dif_neg h]
theorem dig_toNat (d : Nat) (h : d < 10) : (UInt8.ofNat (48 + d)).toNat = 48 + d := by
  rw [UInt8.toNat_ofNat']; omega
theorem dv_dec (n : Nat) : dv (decDigits n) = n := by
  induction n using Nat.strongRecOn with
  | _ n ih =>
    by_cases h : n < 10
    · rw [dec_small h]
      simp only [dv, List.foldl_cons, List.foldl_nil]
      rw [dig_toNat n h]; omega
    · rw [dec_big h, dv_snoc, ih (n / 10) (by omega), dig_toNat _ (by omega)]; omega
theorem dec_inj {m n : Nat} (h : decDigits m = decDigits n) : m = n := by
  rw [← dv_dec m, h, dv_dec]
theorem dec_len (n : Nat) (h : n < 100000) : (decDigits n).length ≤ 5 := by
  rw [decDigits_length]
  have : ∀ k n : Nat, n < 10 ^ (k + 1) → nDigits n ≤ k + 1 := by
    intro k
    induction k with
    | zero => intro n h; rw [nDigits_small (by omega)]; exact Nat.le_refl _
    | succ k ih =>
      intro n h
      by_cases h1 : n < 10
      · rw [nDigits_small h1]; omega
      · rw [nDigits_big h1]
        have := ih (n / 10) (by rw [Nat.pow_succ] at h; omega)
        omega
  exact this 4 n (by omega)
/-- A kind: own words with their numbers. -/
abbrev Own4 := List (List UInt8 × Nat)
/-- The word of a number. -/
def tellF (ps : Own4) (pre : List UInt8) (n : Nat) : List UInt8 :=
  match ps.find? (fun p => p.2 == n) with
  | some p => p.1
  | none => pre ++ decDigits n
/-- The text's pieces. -/
def flatC (ps : Own4) : List (List UInt8) := ps.flatMap fun p => [p.1, decDigits p.2]
theorem flatC_len (ps : Own4) : (flatC ps).length = 2 * ps.length := by
  induction ps with
  | nil => rfl
  | cons p ps ih => simp [flatC] at ih ⊢; omega
theorem flatC_at : ∀ (ps : Own4) (j : Nat) (p : List UInt8 × Nat), ps[j]? = some p → (flatC ps)[2 * j]? = some p.1 ∧ (flatC ps)[2 * j + 1]? = some (decDigits p.2)
  | [], j, p, h => by simp at h
  | q :: ps, 0, p, h => by
    simp at h; subst h
    simp [flatC]
  | q :: ps, j + 1, p, h => by
    have := flatC_at ps j p (by simpa using h)
    simp only [flatC, List.flatMap_cons, List.cons_append, List.nil_append] at this ⊢
    rw [show 2 * (j + 1) = 2 * j + 2 by omega, show 2 * j + 2 + 1 = (2 * j + 1) + 2 by omega]
    simpa using this
/-- One step of a search. -/
theorem find_step {α : Type} (f : α → Bool) (l : List α) (j : Nat) (h : ∀ p ∈ l.take j, f p = false) (p : α) (hp : l[j]? = some p) :
    (f p = true → l.find? f = some p) ∧ (f p = false → ∀ q ∈ l.take (j + 1), f q = false) := by
  have hj : j < l.length := (List.getElem?_eq_some_iff.1 hp).1
  have e : l[j] = p := by rw [List.getElem?_eq_getElem hj] at hp; exact Option.some.inj hp
  constructor
  · intro hf
    have : l = l.take j ++ p :: l.drop (j + 1) := by rw [← e, ← List.drop_eq_getElem_cons hj, List.take_append_drop]
    rw [this, List.find?_append, List.find?_eq_none.2 (fun x hx => by rw [h x hx]; simp)]
    simp [hf]
  · intro hf q hq
    rw [List.take_succ_eq_append_getElem hj, e] at hq
    simp only [List.mem_append, List.mem_singleton] at hq
    rcases hq with hq | hq
    · exact h q hq
    · subst hq; exact hf
theorem find_end {α : Type} (f : α → Bool) (l : List α) (j : Nat) (h : ∀ p ∈ l.take j, f p = false) (hj : l.length ≤ j) : l.find? f = none := by
  rw [List.take_of_length_le hj] at h
  exact List.find?_eq_none.2 (fun x hx => by rw [h x hx]; simp)
end Go.Proofs.YtoppdmlmhigogaaDoor
namespace Go.Proofs.YtoppdmlmhigogaaDoor
open Go Go.Lib
set_option linter.unusedVariables false
set_option linter.unusedSimpArgs false
/-- A byte as it stands in quotes. -/
def xq1 (c : Int) : List Int := if c < 32 ∨ 126 < c then [92, 48 + c / 100, 48 + c / 10 % 10, 48 + c % 10] else if c = 34 ∨ c = 92 then [92, c] else [c]
def xq (l : List Int) : List Int := l.flatMap xq1
def xquote (l : List Int) : List Int := 34 :: (xq l ++ [34])
theorem xq_print (l : List Int) (h : ∀ c ∈ l, 0 ≤ c ∧ c ≤ 255) : ∀ c ∈ xq l, 32 ≤ c ∧ c ≤ 126 := by
  intro c hc
  simp only [xq, List.mem_flatMap] at hc
  obtain ⟨b, hb, hc⟩ := hc
  have := h b hb
  unfold xq1 at hc
  split at hc
  · simp at hc; omega
  · split at hc
    · simp at hc; omega
    · simp at hc; omega
theorem xquote_print (l : List Int) (h : ∀ c ∈ l, 0 ≤ c ∧ c ≤ 255) : ∀ c ∈ xquote l, 32 ≤ c ∧ c ≤ 126 := by
  intro c hc
  simp only [xquote, List.mem_cons, List.mem_append, List.mem_singleton, List.not_mem_nil, or_false] at hc
  rcases hc with rfl | hc | rfl
  · omega
  · exact xq_print l h c hc
  · omega
def xjoin (c : Int) : List (List Int) → List Int
  | [] => []
  | [p] => p
  | p :: q :: ps => p ++ c :: xjoin c (q :: ps)
/-- Decimal digits. -/
def xdec (n : Nat) : List Int := (decDigits n).map fun b => (b.toNat : Int)
def xhd (v : Nat) : Int := if v < 10 then 48 + v else 87 + v
def xhex (n : Nat) : List Int := if h : n < 16 then [xhd n] else xhex (n / 16) ++ [xhd (n % 16)]
termination_by n
theorem xhex_len (n : Nat) (h : n < 65536) : 1 ≤ (xhex n).length ∧ (xhex n).length ≤ 4 := by
  rw [xhex]
  by_cases h1 : n < 16
  · rw [dif_pos h1]; simp
  · rw [dif_neg h1, xhex]
    by_cases h2 : n / 16 < 16
    · rw [dif_pos h2]; simp
    · rw [dif_neg h2, xhex]
      by_cases h3 : n / 16 / 16 < 16
      · rw [dif_pos h3]; simp
      · rw [dif_neg h3, xhex, dif_pos (by omega)]; simp
def xby (n : Nat) : List Int := [((n / 256 : Nat) : Int), ((n % 256 : Nat) : Int)]
def xcol (l : List Nat) : List Int := xjoin 58 (l.map xhex)
/-- How many noughts a list begins with. -/
def xzr : List Nat → Nat
  | [] => 0
  | n :: l => if n = 0 then xzr l + 1 else 0
/-- Where the first of the longest runs of two or more noughts begins, and how long it is. -/
def xstep (l : List Nat) (p : Nat × Nat) (i : Nat) : Nat × Nat := if p.2 < xzr (l.drop i) then (i, xzr (l.drop i)) else p
def xlong (l : List Nat) : Nat × Nat := if ((List.range l.length).foldl (xstep l) (0, 1)).2 < 2 then (l.length, 0) else (List.range l.length).foldl (xstep l) (0, 1)
/-- The text of eight numbers. -/
def xa6 (l : List Nat) : List Int := if (xlong l).2 = 0 then xcol l else xcol (l.take (xlong l).1) ++ 58 :: 58 :: xcol (l.drop ((xlong l).1 + (xlong l).2))
theorem xdec_small {n : Nat} (h : n < 10) : xdec n = [48 + (n : Int)] := by
  unfold xdec
  rw [decDigits, dif_pos h]
  simp [UInt8.toNat_ofNat']
  omega
theorem xdec_big {n : Nat} (h : ¬ n < 10) : xdec n = xdec (n / 10) ++ [48 + ((n % 10 : Nat) : Int)] := by
  unfold xdec
  rw [decDigits, dif_neg h, List.map_append]
  congr 1
  simp [UInt8.toNat_ofNat']
  omega
theorem xdec_digit (n : Nat) : ∀ c ∈ xdec n, 48 ≤ c ∧ c ≤ 57 := by
  induction n using Nat.strongRecOn with
  | _ n ih =>
    by_cases h : n < 10
    · rw [xdec_small h]; intro c hc; simp at hc; subst hc; omega
    · rw [xdec_big h]; intro c hc
      simp only [List.mem_append, List.mem_singleton] at hc
      rcases hc with hc | rfl
      · exact ih (n / 10) (by omega) c hc
      · omega
def xprs : List Int → List Nat
  | a :: b :: l => (256 * a.toNat + b.toNat) :: xprs l
  | _ => []
def xaddr (b : List Int) : Option (List Int) := if b.length = 4 then some (xjoin 46 (b.map fun c => xdec c.toNat)) else if b.length = 16 then some (xa6 (xprs b)) else none
theorem xprs_by (l : List Int) : ∀ k, l.length = 2 * k → (∀ c ∈ l, 0 ≤ c ∧ c ≤ 255) → (xprs l).length = k ∧ (xprs l).flatMap xby = l ∧ ∀ n ∈ xprs l, n < 65536 := by
  intro k
  induction k generalizing l with
  | zero => intro h _; have : l = [] := List.length_eq_zero_iff.1 (by omega); subst this; simp [xprs]
  | succ k ih =>
    intro h hb
    match l, h with
    | a :: b :: l, h =>
      simp only [List.length_cons] at h
      obtain ⟨i1, i2, i3⟩ := ih l (by omega) (fun c hc => hb c (by simp [hc]))
      have ha := hb a (by simp)
      have hbb := hb b (by simp)
      refine ⟨by simp [xprs, i1], ?_, ?_⟩
      · simp only [xprs, List.flatMap_cons, i2]
        have e : xby (256 * a.toNat + b.toNat) = [a, b] := by
          unfold xby
          have e1 : (((256 * a.toNat + b.toNat) / 256 : Nat) : Int) = a := by omega
          have e2 : (((256 * a.toNat + b.toNat) % 256 : Nat) : Int) = b := by omega
          rw [e1, e2]
        rw [e]; rfl
      · intro n hn
        simp only [xprs, List.mem_cons] at hn
        rcases hn with rfl | hn
        · omega
        · exact i3 n hn
    | [a], h => simp at h; omega
    | [], h => simp at h
end Go.Proofs.YtoppdmlmhigogaaDoor
namespace Go.Proofs.YtoppdmlmhigogaaDoor
open Go Go.Lib
set_option linter.unusedVariables false
set_option linter.unusedSimpArgs false
def bi (l : List UInt8) : List Int := l.map fun b => (b.toNat : Int)
theorem bi_len (l : List UInt8) : (bi l).length = l.length := by simp [bi]
theorem join_x (c : UInt8) (xs : List (List UInt8)) : bi (Lib.join xs [c]) = xjoin c.toNat (xs.map bi) := by
  cases xs with
  | nil => rfl
  | cons x xs =>
    induction xs generalizing x with
    | nil => rw [join_one]; rfl
    | cons y r ih =>
      rw [join_cons]
      have h := ih y
      rw [join_cons] at h
      simp only [List.map_cons, xjoin]
      rw [List.map_cons] at h
      rw [← h]
      simp [joinTail, bi]
theorem bi_dec (n : Nat) : bi (decDigits n) = xdec n := rfl
end Go.Proofs.YtoppdmlmhigogaaDoor
namespace Go.Proofs.YtoppdmlmhigogaaDoor
open Go Go.Lib
set_option linter.unusedVariables false
set_option linter.unusedSimpArgs false
/-- One step of the mark that runs: where the longest run so far begins and ends, and where the run begins that the mark is in. -/
def lstep (l : List Nat) (s : Nat × Nat × Nat) (r : Nat) : Nat × Nat × Nat :=
  if max 1 (s.2.1 - s.1) < r + 1 - (if l.getD r 0 ≠ 0 then r + 1 else s.2.2) then ((if l.getD r 0 ≠ 0 then r + 1 else s.2.2), r + 1, (if l.getD r 0 ≠ 0 then r + 1 else s.2.2)) else (s.1, s.2.1, (if l.getD r 0 ≠ 0 then r + 1 else s.2.2))
def lrunK (l : List Nat) (k : Nat) : Nat × Nat × Nat := (List.range k).foldl (lstep l) (0, 0, 0)
theorem lrunK_succ (l : List Nat) (k : Nat) : lrunK l (k + 1) = lstep l (lrunK l k) k := by
  unfold lrunK; rw [List.range_succ, List.foldl_append]; rfl
theorem lrunK_ok (l : List Nat) : ∀ k, (lrunK l k).1 ≤ (lrunK l k).2.1 ∧ (lrunK l k).2.1 ≤ k ∧ (lrunK l k).2.2 ≤ k := by
  intro k
  induction k with
  | zero => exact ⟨Nat.le_refl _, Nat.le_refl _, Nat.le_refl _⟩
  | succ k ih =>
    rw [lrunK_succ]
    unfold lstep
    generalize lrunK l k = s at *
    have hm : (if l.getD k 0 ≠ 0 then k + 1 else s.2.2) ≤ k + 1 := by split <;> omega
    generalize (if l.getD k 0 ≠ 0 then k + 1 else s.2.2) = m at *
    split
    · exact ⟨hm, Nat.le_refl _, hm⟩
    · exact ⟨ih.1, Nat.le_succ_of_le ih.2.1, hm⟩
def nz (n : Nat) : Nat := if n = 0 then 0 else 1
theorem nz_zero (n : Nat) : nz n = 0 ↔ n = 0 := by unfold nz; split <;> simp [*]
theorem xzr_nz (l : List Nat) : xzr (l.map nz) = xzr l := by
  induction l with
  | nil => rfl
  | cons n l ih => simp only [List.map_cons, xzr, ih, nz_zero]
theorem xstep_nz (l : List Nat) : xstep (l.map nz) = xstep l := by
  funext p i
  unfold xstep
  rw [← List.map_drop, xzr_nz]
theorem xlong_nz (l : List Nat) : xlong (l.map nz) = xlong l := by unfold xlong; rw [xstep_nz, List.length_map]
theorem lstep_nz (l : List Nat) : lstep (l.map nz) = lstep l := by
  funext s r
  have e : ((l.map nz).getD r 0 ≠ 0) = (l.getD r 0 ≠ 0) := by
    rw [List.getD_eq_getElem?_getD, List.getD_eq_getElem?_getD, List.getElem?_map]
    cases h : l[r]? with
    | none => rfl
    | some n => simp only [Option.map_some, Option.getD_some, ne_eq, nz_zero]
  unfold lstep
  simp only [e]
theorem lrunK_nz (l : List Nat) (k : Nat) : lrunK (l.map nz) k = lrunK l k := by unfold lrunK; rw [lstep_nz]
def okRun (l : List Nat) : Bool := if (xlong l).2 = 0 then decide ((lrunK l 8).1 = (lrunK l 8).2.1) else decide ((lrunK l 8).1 = (xlong l).1 ∧ (lrunK l 8).2.1 = (xlong l).1 + (xlong l).2 ∧ (lrunK l 8).1 ≠ (lrunK l 8).2.1)
def b2 (b : Bool) : Nat := if b then 1 else 0
theorem okRun_all : ∀ a b c d e f g h : Bool, okRun [b2 a, b2 b, b2 c, b2 d, b2 e, b2 f, b2 g, b2 h] = true := by decide +kernel
theorem okRun_any (l : List Nat) (h8 : l.length = 8) : okRun l = true := by
  have e : okRun l = okRun (l.map nz) := by unfold okRun; rw [xlong_nz, lrunK_nz]
  rw [e]
  match l, h8 with
  | [a, b, c, d, e, f, g, h], _ =>
    have hb : ∀ n, nz n = b2 (decide (n ≠ 0)) := by intro n; unfold nz b2; by_cases h : n = 0 <;> simp [h]
    simp only [List.map_cons, List.map_nil, hb]
    exact okRun_all _ _ _ _ _ _ _ _
/-- The text of eight numbers, by the marks. -/
theorem xa6_run (l : List Nat) (h8 : l.length = 8) : ((lrunK l 8).1 = (lrunK l 8).2.1 → xa6 l = xcol l) ∧ ((lrunK l 8).1 ≠ (lrunK l 8).2.1 → xa6 l = xcol (l.take (lrunK l 8).1) ++ 58 :: 58 :: xcol (l.drop (lrunK l 8).2.1)) := by
  have h := okRun_any l h8
  unfold okRun at h
  unfold xa6
  by_cases h0 : (xlong l).2 = 0
  · rw [if_pos h0] at h ⊢
    rw [decide_eq_true_eq] at h
    exact ⟨fun _ => rfl, fun hn => absurd h hn⟩
  · rw [if_neg h0] at h ⊢
    rw [decide_eq_true_eq] at h
    obtain ⟨h1, h2, h3⟩ := h
    exact ⟨fun e => absurd e h3, fun _ => by rw [h2, h1]⟩
end Go.Proofs.YtoppdmlmhigogaaDoor
namespace Go.Proofs
open Go.Shelf
end Go.Proofs
namespace Go.Proofs.YtoppdmlmhigogaaDoor
open Go.ChangeShapes Go.WideShapes Go.ChangeAt Go.RowKit Go.Sort
set_option linter.unusedVariables false
set_option linter.unusedSimpArgs false
theorem gPow : Tryd.prog.globalNamed "internal/strconv.uint64pow10" = some 0 := by kernel_rfl
theorem gSp : Tryd.prog.globalNamed "strings.asciiSpace" = some 1 := by kernel_rfl
/-- The tables: powers, blanks, and the one cell of the other table that base 16 reads. -/
def LayT (w : World) : Prop := Lib.TabIs Tryd.prog w "internal/strconv.uint64pow10" .u64 Lib.pow10Tab ∧ Lib.TabIs Tryd.prog w "strings.asciiSpace" .u8 Lib.asciiSpaceTab ∧ 4 < w.heap.size ∧ w.cell? ⟨4, 15, none⟩ = some (.int .u8 4)
theorem cell_below {w w' : World} {g o : Nat} (hb : Below w.heap.size w w') (hg : g < w.heap.size) : w'.cell? ⟨g, o, none⟩ = w.cell? ⟨g, o, none⟩ := by
  unfold World.cell?
  rw [hb.block g hg]
theorem LayT.below {w w' : World} (h : LayT w) (hb : Below w.heap.size w w') : LayT w' := ⟨Joins.tab_stays gPow h.1 hb (Nat.le_refl _), Joins.tab_stays gSp h.2.1 hb (Nat.le_refl _), Nat.lt_of_lt_of_le h.2.2.1 hb.size, by rw [cell_below hb h.2.2.1]; exact h.2.2.2⟩
theorem itoa_nat (n : Nat) (h1 : n < 9223372036854775808) (w : World) (hL : LayT w) :
    Calls Tryd.prog 56 #[.int .i64 n] w fun e w' => e = .returned (.string ⟨(Lib.decDigits n).toArray⟩) ∧ Hid (Below w.heap.size w w') := by
  refine (Tryd.strconv_Itoa n (by omega) (by omega) w hL.1).mono ?_
  rintro e w' ⟨rfl, k, os, rfl⟩
  rw [Lib.itoa_nonneg]
  exact ⟨rfl, Lib.below_grow _ w (Nat.le_refl _) k os⟩
/-- The new block's bytes are a row of zeros. -/
theorem holds_z (w : World) (T : TypeId) (nd : Nat) (hs : nd ≤ 24) : Holds (fun (b : UInt8) => Value.int .u8 (b.toNat : Int)) (w.alloc (.cells Lib.zeros24 T)) w.heap.size 0 (Array.replicate nd (0 : UInt8)) := fun j hj => by
  have hj' : j < nd := by simpa using hj
  refine ⟨?_, World.frozen?_alloc_new _ _ _ _⟩
  rw [World.cell?_alloc_new, Lib.zeros24_at _ (by omega), getElem!_pos _ j hj]
  simp
theorem fin_z (w : World) (o : Obj) (dk : Array UInt8) (k : Nat) : ∃ os, (putRow (fun (b : UInt8) => Value.int .u8 (b.toNat : Int)) (w.alloc o) w.heap.size 0 dk).drewN k = grow (w.drewN k) os := by
  rw [alloc_eq_grow]
  obtain ⟨os', _, e⟩ := putRow_grow_new (fun (b : UInt8) => Value.int .u8 (b.toNat : Int)) w #[o] w.heap.size 0 dk (Nat.le_refl _)
  exact ⟨os', by rw [e]; rfl⟩
set_option maxRecDepth 100000 in
set_option maxHeartbeats 6400000 in
set_option maxRecDepth 100000 in
theorem fmt10_in (u : Nat) (hu64 : u < 18446744073709551616) (w : World) (hL : LayT w) :
    Calls Tryd.prog 37 #[.int .u64 u, .int .i64 10] w fun e w' => e = .returned (.string ⟨(Lib.decDigits u).toArray⟩) ∧ Hid (Below w.heap.size w w') := by
  have HT : Hid (Lib.TabIs Tryd.prog w "internal/strconv.uint64pow10" .u64 Lib.pow10Tab) := hL.1
  clear hL
  by_cases hs : u < 100
  · have hs' : (u : Int) < 100 := by omega
    go_enter Tryd.func37, Tryd.ntmps37
    go_wp2_with fail
    refine (Tryd.internal_strconv_small u hs _).mono ?_
    rintro e w' ⟨rfl, rfl⟩
    go_wp2_with fail
    go_ret
    exact ⟨rfl, Below.refl _ _⟩
  · have hu1 : 1 ≤ u := by omega
    have hs' : ¬ (u : Int) < 100 := by omega
    have hnd20 : Lib.nDigits u ≤ 20 := by have := Lib.numDigits_eq u hu1 hu64; split at this <;> omega
    have hb3 : Lib.nDigits u ≤ 23 := by omega
    have hal : Tryd.prog.arrayLen 90 = 24 := by kernel_rfl
    have hsl1 : ∀ W, (Instr.sliceAt 90 (.pointer (some ⟨w.heap.size, 0, none⟩)) none (some (.int .i64 (Lib.nDigits u : Int))) none).run Tryd.prog W = .ok (.slice (some ⟨w.heap.size, 0, none⟩) (Lib.nDigits u) 24) W := fun W => by
      rw [run_sliceAt_array_h W 90 ⟨w.heap.size, 0, none⟩ (by simp [Program.arrayLen, Program.elem, Tryd.underlying90]) .i64 (Lib.nDigits u : Int) (by omega) (by rw [hal]; omega)]
      go_simp
    have hH0 := holds_z w 90 (Lib.nDigits u) (by omega)
    have hfmt := Tryd.internal_strconv_formatBase10 w.heap.size 0 24 u (Array.replicate (Lib.nDigits u) 0) (w.alloc (.cells Lib.zeros24 90)) hH0 (by rw [Array.size_replicate]; exact Lib.lt_pow_nDigits u) hu64 (by rw [Array.size_replicate]; omega)
    rw [Array.size_replicate] at hfmt
    have HF := Lib.hid hfmt
    have HH0 := Lib.hid hH0
    clear hH0 hal hfmt
    go_enter Tryd.func37, Tryd.ntmps37
    go_wp2_with fail
    refine (Tryd.internal_strconv_numDigits u hu1 hu64 _ (Lib.tabIs_alloc HT.out _)).mono ?_
    rintro e w' ⟨rfl, rfl⟩
    go_wp2_with fail
    refine HF.out.mono ?_
    rintro e w' ⟨rfl, k, v', dk, rfl, hF⟩
    have hcv : (convert 33 9 (.slice (some ⟨w.heap.size, 0, none⟩) (Lib.nDigits u) 24)).run Tryd.prog ((putRow (fun (b : UInt8) => Value.int .u8 (b.toNat : Int)) (w.alloc (.cells Lib.zeros24 90)) w.heap.size 0 dk).drewN k) = .ok (.string ⟨(Lib.decDigits u).toArray⟩) ((putRow (fun (b : UInt8) => Value.int .u8 (b.toNat : Int)) (w.alloc (.cells Lib.zeros24 90)) w.heap.size 0 dk).drewN k) := by
      have h := run_convert_bytes_back (P := Tryd.prog) ((putRow (fun (b : UInt8) => Value.int .u8 (b.toNat : Int)) (w.alloc (.cells Lib.zeros24 90)) w.heap.size 0 dk).drewN k) 33 9 5 ⟨w.heap.size, 0, none⟩ 24 (Lib.decDigits u) Tryd.underlying33 Tryd.underlying5 Tryd.underlying9 (fun j hj => by
        rw [Lib.row_is_numeral hF j hj, Lib.add_plain, World.cell?_drewN]
        exact cell?_putRow (fun (b : UInt8) => Value.int .u8 (b.toNat : Int)) _ w.heap.size 0 _ dk HH0.out (by rw [hF.size, Array.size_replicate]) j (by rw [hF.size]; rw [Lib.decDigits_length] at hj; exact hj))
      rw [Lib.decDigits_length] at h
      exact h
    go_wp2
    go_ret
    obtain ⟨os, eo⟩ := fin_z w (.cells Lib.zeros24 90) dk k
    refine ⟨rfl, ?_⟩
    show Below _ _ _
    rw [eo]
    exact Lib.below_grow _ w (Nat.le_refl _) k os
theorem fmt10 (u : Nat) (hu64 : u < 18446744073709551616) (w : World) (hL : LayT w) :
    Calls Tryd.prog 19 #[.int .u64 u, .int .i64 10] w fun e w' => e = .returned (.string ⟨(Lib.decDigits u).toArray⟩) ∧ Hid (Below w.heap.size w w') := by
  have K : Hid (LayT w) := hL
  go_enter Tryd.func19, Tryd.ntmps19
  go_wp2_with fail
  refine (fmt10_in u hu64 w K.out).mono ?_
  rintro e w' ⟨rfl, H⟩
  go_wp2_with fail
  go_ret
  exact ⟨rfl, H.out⟩
end Go.Proofs.YtoppdmlmhigogaaDoor
namespace Go.Proofs.YtoppdmlmhigogaaDoor
open Go.ChangeShapes Go.WideShapes Go.ChangeAt Go.RowKit
set_option linter.unusedVariables false
set_option linter.unusedSimpArgs false
open Go.ChangeShapes Go.WideShapes Go.ChangeAt Go.RowKit Go.Sort
/-- A text of own words with their numbers. -/
def KOk (s : ByteArray) (ps : Own4) : Prop := s.size < 4294967281 ∧ (∀ (j : Nat) b, s.data.toList[j]? = some b → b.toNat < 128) ∧ Lib.fields s.data.toList = flatC ps ∧ ps.length ≤ 1000 ∧ ∀ p ∈ ps, p.2 < 65536
theorem fields_any (s : ByteArray) (ps : Own4) (w : World) (hK : KOk s ps) (hL : LayT w) :
    Calls Tryd.prog 57 #[.string s] w fun e w' => e = .returned (.slice (some ⟨w.heap.size, 0, none⟩) (2 * ps.length) (2 * ps.length)) ∧
      Hid (Below w.heap.size w w' ∧ ∀ j p, ps[j]? = some p → w'.cell? ⟨w.heap.size, 2 * j, none⟩ = some (.string ⟨p.1.toArray⟩) ∧ w'.cell? ⟨w.heap.size, 2 * j + 1, none⟩ = some (.string ⟨(Lib.decDigits p.2).toArray⟩)) := by
  refine (Tryd.strings_Fields s w hK.1 hK.2.1 hL.2.1).mono ?_
  rintro e w' ⟨rfl, rfl⟩
  rw [hK.2.2.1, flatC_len]
  refine ⟨rfl, (Below.refl _ _).alloc (Nat.le_refl _) _, fun j p hp => ?_⟩
  obtain ⟨h1, h2⟩ := flatC_at ps j p hp
  constructor
  · unfold World.cell?; rw [heap_alloc_new]; simp [h1]
  · unfold World.cell?; rw [heap_alloc_new]; simp [h2]
theorem tz64 (w : World) (hL : LayT w) : Calls Tryd.prog 80 #[.int .u64 16] w fun e w' => e = .returned (.int .i64 4) ∧ w' = w := by
  have hc := hL.2.2.2
  have hA : bits .and .u64 16 (IntKind.u64.wrap (-16)) = 16 := by decide +kernel
  have hW : IntKind.u64.wrap 4573923408821661840 = 4573923408821661840 := by decide +kernel
  clear hL
  go_enter Tryd.func80, Tryd.ntmps80
  go_wp2
  go_ret
  exact ⟨rfl, rfl⟩
theorem tz16 (w : World) (hL : LayT w) : Calls Tryd.prog 67 #[.int .u64 16] w fun e w' => e = .returned (.int .i64 4) ∧ w' = w := by
  have K : Hid (LayT w) := hL
  clear hL
  go_enter Tryd.func67, Tryd.ntmps67
  go_wp2_with fail
  refine (tz64 w K.out).mono ?_
  rintro e w' ⟨rfl, rfl⟩
  go_wp2_with fail
  go_ret
  exact ⟨rfl, rfl⟩
theorem pow16 (w : World) : Calls Tryd.prog 66 #[.int .i64 16] w fun e w' => e = .returned (.bool true) ∧ w' = w := by
  go_enter Tryd.func66, Tryd.ntmps66
  go_wp2
  go_ret
  exact ⟨rfl, rfl⟩
/-- 65 cells of which the last ones are digits. -/
def fbx (ds : List Int) : List Value := List.replicate (65 - ds.length) (.int .u8 0) ++ ds.map (Value.int .u8)
theorem fbx_len (ds : List Int) (h : ds.length ≤ 65) : (fbx ds).length = 65 := by simp [fbx]; omega
theorem fbx_set (ds : List Int) (z : Int) (h : ds.length < 65) : (fbx ds).set (64 - ds.length) (.int .u8 z) = fbx (z :: ds) := by
  unfold fbx
  rw [List.set_append_left _ _ (by simp; omega)]
  rw [show 65 - ds.length = (64 - ds.length) + 1 by omega, List.replicate_succ', List.set_append_right _ _ (by simp)]
  simp [show 65 - (ds.length + 1) = 64 - ds.length by omega]
theorem fbx_at (ds : List Int) (j : Nat) (h : ds.length ≤ 65) (hj : j < ds.length) : (fbx ds)[65 - ds.length + j]? = some (.int .u8 (ds.getD j 0)) := by
  unfold fbx
  rw [List.getElem?_append_right (by simp), List.length_replicate, show 65 - ds.length + j - (65 - ds.length) = j by omega, List.getElem?_map, List.getD_eq_getElem?_getD, List.getElem?_eq_getElem hj]
  rfl
theorem fbx_new (w : World) : BlkV (w.alloc (.cells Tryd.zeroCells108 108)) w.heap.size 108 (fbx []) := by
  have e : Tryd.zeroCells108 = (fbx []).toArray := by kernel_rfl
  rw [e]
  exact heap_alloc_new _ _
theorem xd_get (d : Nat) (h : d < ({ data := #[48, 49, 50, 51, 52, 53, 54, 55, 56, 57, 97, 98, 99, 100, 101, 102, 103, 104, 105, 106, 107, 108, 109, 110, 111, 112, 113, 114, 115, 116, 117, 118, 119, 120, 121, 122] } : ByteArray).size) (h1 : d < 16) : ((({ data := #[48, 49, 50, 51, 52, 53, 54, 55, 56, 57, 97, 98, 99, 100, 101, 102, 103, 104, 105, 106, 107, 108, 109, 110, 111, 112, 113, 114, 115, 116, 117, 118, 119, 120, 121, 122] } : ByteArray)[d]'h).toNat : Int) = xhd d := by
  rcases (by omega : d = 0 ∨ d = 1 ∨ d = 2 ∨ d = 3 ∨ d = 4 ∨ d = 5 ∨ d = 6 ∨ d = 7 ∨ d = 8 ∨ d = 9 ∨ d = 10 ∨ d = 11 ∨ d = 12 ∨ d = 13 ∨ d = 14 ∨ d = 15) with rfl | rfl | rfl | rfl | rfl | rfl | rfl | rfl | rfl | rfl | rfl | rfl | rfl | rfl | rfl | rfl <;> kernel_rfl
theorem sl65 (g k : Nat) (hk : k ≤ 64) (W : World) : (Instr.sliceAt 108 (.pointer (some ⟨g, 0, none⟩)) (some (.int .i64 (k : Int))) none none).run Tryd.prog W = .ok (.slice (some ⟨g, k, none⟩) (65 - k) (65 - k)) W := by
  have hal : Tryd.prog.arrayLen 108 = 65 := by kernel_rfl
  rw [run_sliceAt_array_l W 108 ⟨g, 0, none⟩ (by simp [Program.arrayLen, Program.elem, Tryd.underlying108]) .i64 (k : Int) (by omega) (by rw [hal]; omega)]
  go_simp
  omega
theorem p16 (n v : Nat) (hv : 1 ≤ v) (h : v * 16 ^ n < 65536) : n < 4 := by
  by_cases hn : n < 4
  · exact hn
  · have h1 : (16 : Nat) ^ 4 ≤ 16 ^ n := Nat.pow_le_pow_right (by omega) (by omega)
    have h2 : 1 * 16 ^ n ≤ v * 16 ^ n := Nat.mul_le_mul_right _ hv
    omega
theorem and15u (u : Nat) (h : u < 65536) : bits .and .u64 (u : Int) 15 = ((u % 16 : Nat) : Int) := by
  have := u64_and (u : Int) 15 (by omega) (by omega) (by omega) (by omega)
  rw [this]
  simp
  have : u &&& 15 = u % 16 := Nat.and_two_pow_sub_one_eq_mod u 4
  rw [this]; omega
set_option maxRecDepth 100000 in
set_option maxHeartbeats 4000000 in
theorem bits16 (u : Nat) (hu : u < 65536) (w : World) (hL : LayT w) :
    Calls Tryd.prog 52 #[.slice none 0 0, .int .u64 u, .int .i64 16, .bool false, .bool false] w fun e w' => e = .returned (.tuple #[.slice none 0 0, .string (lb (xhex u))]) ∧ Hid (Below w.heap.size w w') := by
  have HL : Hid (LayT w) := hL
  clear hL
  have HU : Hid (u < 65536) := hu
  go_enter Tryd.func52, Tryd.ntmps52
  go_wp2_with fail
  have H0 := Lib.hid (fbx_new w)
  have HB0 : Hid (Below w.heap.size w (w.alloc (.cells Tryd.zeroCells108 108))) := (Below.refl _ _).alloc (Nat.le_refl _) _
  generalize (w.alloc (.cells Tryd.zeroCells108 108)) = wa at *
  refine (pow16 _).mono ?_
  rintro e w' ⟨rfl, hw⟩
  subst w'
  go_wp2_with fail
  refine (tz16 _ (HL.out.below HB0.out)).mono ?_
  rintro e w' ⟨rfl, hw⟩
  subst w'
  go_wp2_with fail
  go_loopw [1, 13] (fun x y wr => ∃ (v k : Nat) (ds : List Int), x = .int .u64 v ∧ y = .int .i64 ((k : Int) + 1) ∧ k + ds.length = 64 ∧ v < 65536 ∧ Hid (xhex u = xhex v ++ ds ∧ (∀ z ∈ ds, 0 ≤ z ∧ z ≤ 255)) ∧ v * 16 ^ ds.length < 65536 ∧ Hid (BlkV wr w.heap.size 108 (fbx ds) ∧ Below w.heap.size w wr)) (fun x _ _ => (intOf x).toNat)
  case atStart => exact ⟨u, 64, [], rfl, rfl, rfl, HU.out, ⟨by simp, by simp⟩, by simpa using HU.out, H0.out, HB0.out⟩
  case round =>
    obtain ⟨v, k, ds, rfl, rfl, hkd, hv, HX, hds, HW⟩ := hrel
    clear H0 HB0
    have hk : k < (fbx ds).length := by rw [fbx_len _ (by omega)]; omega
    have hc := HW.out.1.cell k hk
    have hfz := HW.out.1.frozen k
    generalize (fbx ds)[k] = c0 at hc
    by_cases h16 : 16 ≤ v
    · have h16' : (16 : Int) ≤ (v : Int) := by omega
      have hA := and15u v hv
      have hl4 := p16 ds.length v (by omega) hds
      have HZ : Hid (0 ≤ xhd (v % 16) ∧ xhd (v % 16) ≤ 255) := by show _ ∧ _; unfold xhd; split <;> omega
      have HD : Hid (xhex v = xhex (v / 16) ++ [xhd (v % 16)]) := by show _ = _; rw [xhex, dif_neg (by omega)]
      have hk64 : (k : Int) < 65 := by omega
      go_wp2_with fail
      rw [xd_get (v % 16) (by show _ < 36; omega) (by omega)]
      generalize xhd (v % 16) = z at *
      have hsh : 16 ^ (ds.length + 1) = 16 * 16 ^ ds.length := by rw [Nat.pow_succ, Nat.mul_comm]
      refine ⟨⟨v / 16, k - 1, z :: ds, by go_num, by congr 1; omega, by simp; omega, by omega, ⟨?_, ?_⟩, ?_, ?_, ?_⟩, by simp [intOf]; omega⟩
      · rw [HX.out.1, HD.out]; simp
      · intro y hy
        rcases List.mem_cons.1 hy with rfl | hy
        · exact HZ.out
        · exact HX.out.2 y hy
      · rw [List.length_cons, hsh, ← Nat.mul_assoc]
        have : v / 16 * 16 ≤ v := Nat.div_mul_le_self v 16
        exact Nat.lt_of_le_of_lt (Nat.mul_le_mul_right _ this) hds
      · have := HW.out.1.stored k (.int .u8 z)
        rw [show k = 64 - ds.length by omega, fbx_set ds z (by omega)] at this
        rw [show k = 64 - ds.length by omega]
        exact this
      · exact HW.out.2.setCell (show w.heap.size ≤ (⟨w.heap.size, k, none⟩ : Addr).block from Nat.le_refl _) _
    · have h16' : ¬ (16 : Int) ≤ (v : Int) := by omega
      have hk64 : (k : Int) < 65 := by omega
      have hsl := sl65 w.heap.size k (by omega)
      have HZ : Hid (0 ≤ xhd v ∧ xhd v ≤ 255) := by show _ ∧ _; unfold xhd; split <;> omega
      have HD : Hid (xhex v = [xhd v]) := by show _ = _; rw [xhex, dif_pos (by omega)]
      have hzz := xd_get v (by show _ < 36; omega) (by omega)
      generalize xhd v = z at *
      have hb2 : BlkV (wr.setCell ⟨w.heap.size, k, none⟩ (.int .u8 z)) w.heap.size 108 (fbx (z :: ds)) := by
        have := HW.out.1.stored k (.int .u8 z)
        rw [show k = 64 - ds.length by omega, fbx_set ds z (by omega)] at this
        rw [show k = 64 - ds.length by omega]
        exact this
      have HL2 : Hid (xhex u = z :: ds ∧ ∀ y ∈ z :: ds, 0 ≤ y ∧ y ≤ 255) := by
        refine ⟨by rw [HX.out.1, HD.out]; rfl, fun y hy => ?_⟩
        rcases List.mem_cons.1 hy with rfl | hy
        · exact HZ.out
        · exact HX.out.2 y hy
      have hcv : (convert 33 9 (.slice (some ⟨w.heap.size, k, none⟩) (65 - k) (65 - k))).run Tryd.prog (wr.setCell ⟨w.heap.size, k, none⟩ (.int .u8 z)) = .ok (.string (lb (xhex u))) (wr.setCell ⟨w.heap.size, k, none⟩ (.int .u8 z)) := by
        have h := run_convert_bytes_back (P := Tryd.prog) (wr.setCell ⟨w.heap.size, k, none⟩ (.int .u8 z)) 33 9 5 ⟨w.heap.size, k, none⟩ (65 - k) (txt (z :: ds)) Tryd.underlying33 Tryd.underlying5 Tryd.underlying9 (fun j hj => by
          rw [txt_len] at hj
          rw [Lib.add_plain]
          have hjl : k + j < (fbx (z :: ds)).length := by rw [fbx_len _ (by simp; omega)]; simp at hj; omega
          have h1 := hb2.cell (k + j) hjl
          have h2 := fbx_at (z :: ds) j (by simp; omega) hj
          rw [show 65 - (z :: ds).length + j = k + j by simp; omega, List.getElem?_eq_getElem hjl] at h2
          injection h2 with h2
          rw [h1, h2]
          have hm : (z :: ds).getD j 0 ∈ z :: ds := by rw [List.getD_eq_getElem?_getD, List.getElem?_eq_getElem hj]; exact List.getElem_mem hj
          have hbd := HL2.out.2 _ hm
          have e : (txt (z :: ds))[j]'(by rw [txt_len]; exact hj) = UInt8.ofNat ((z :: ds).getD j 0).toNat := by
            simp only [txt, List.getElem_map, List.getD_eq_getElem?_getD, List.getElem?_eq_getElem hj, Option.getD_some]
          rw [e]
          generalize (z :: ds).getD j 0 = y at hbd
          congr 2
          simp
          omega)
        rw [txt_len, show (z :: ds).length = 65 - k by simp; omega] at h
        rw [HL2.out.1]
        exact h
      have HCV := Lib.hid hcv
      have HB9 : Hid (Below w.heap.size w (wr.setCell ⟨w.heap.size, k, none⟩ (.int .u8 z))) := HW.out.2.setCell (show w.heap.size ≤ (⟨w.heap.size, k, none⟩ : Addr).block from Nat.le_refl _) _
      clear hcv hb2
      have hcv := HCV.out
      go_wp2_with fail
      go_ret2
      exact ⟨rfl, HB9.out⟩
theorem fmt16_in (u : Nat) (hu : u < 65536) (w : World) (hL : LayT w) :
    Calls Tryd.prog 37 #[.int .u64 u, .int .i64 16] w fun e w' => e = .returned (.string (lb (xhex u))) ∧ Hid (Below w.heap.size w w') := by
  have K : Hid (LayT w) := hL
  clear hL
  go_enter Tryd.func37, Tryd.ntmps37
  go_wp2_with fail
  refine (bits16 u hu w K.out).mono ?_
  rintro e w' ⟨rfl, H⟩
  go_wp2_with fail
  go_ret
  exact ⟨rfl, H.out⟩
theorem fmt16 (u : Nat) (hu : u < 65536) (w : World) (hL : LayT w) :
    Calls Tryd.prog 19 #[.int .u64 u, .int .i64 16] w fun e w' => e = .returned (.string (lb (xhex u))) ∧ Hid (Below w.heap.size w w') := by
  have K : Hid (LayT w) := hL
  clear hL
  go_enter Tryd.func19, Tryd.ntmps19
  go_wp2_with fail
  refine (fmt16_in u hu w K.out).mono ?_
  rintro e w' ⟨rfl, H⟩
  go_wp2_with fail
  go_ret
  exact ⟨rfl, H.out⟩
end Go.Proofs.YtoppdmlmhigogaaDoor
namespace Go.Proofs.YtoppdmlmhigogaaDoor
open Go.ChangeShapes Go.WideShapes Go.ChangeAt Go.RowKit Go.Sort
set_option linter.unusedVariables false
set_option linter.unusedSimpArgs false
def hx1 (v : Nat) : Option Nat := if 97 ≤ v ∧ v ≤ 102 then some (v - 87) else none
end Go.Proofs.YtoppdmlmhigogaaDoor
namespace Go.Proofs.YtoppdmlmhigogaaDoor
open Go.ChangeShapes Go.WideShapes Go.ChangeAt Go.RowKit
set_option linter.unusedVariables false
set_option linter.unusedSimpArgs false
theorem nums_cat (a b : ByteArray) : nums (a ++ b) = nums a ++ nums b := by
  simp [nums]
theorem nums_back (l : List Int) (h : ∀ z ∈ l, 0 ≤ z ∧ z ≤ 255) : nums ⟨(txt l).toArray⟩ = l := by
  unfold nums txt
  simp only [List.map_map]
  conv => rhs; rw [← List.map_id l]
  apply List.map_congr_left
  intro z hz
  have := h z hz
  simp
  omega
theorem txt_back (s : ByteArray) : (⟨(txt (nums s)).toArray⟩ : ByteArray) = s := by
  have : txt (nums s) = s.data.toList := by
    unfold nums txt
    rw [List.map_map]
    conv => rhs; rw [← List.map_id s.data.toList]
    apply List.map_congr_left
    intro b _
    simp
  rw [this]
end Go.Proofs.YtoppdmlmhigogaaDoor
namespace Go.Proofs.YtoppdmlmhigogaaDoor
open Go.ChangeShapes Go.WideShapes Go.ChangeAt Go.RowKit
set_option linter.unusedVariables false
set_option linter.unusedSimpArgs false
/-- The text of labels, as numbers. -/
def flat (l : List ByteArray) : List Int := l.flatMap fun s => tx (nums s) ++ [46]
theorem nums_tb (s : ByteArray) : nums (tb s) = tx (nums s) := nums_back _ (tx_bd _ (nums_all s))
theorem nums_ntxt (l : List ByteArray) : nums (ntxt l) = flat l := by
  have : ∀ (l : List ByteArray) (acc : ByteArray), nums (l.foldl (fun acc s => acc ++ tb s ++ ⟨#[46]⟩) acc) = nums acc ++ flat l := by
    intro l
    induction l with
    | nil => intro acc; simp [flat]
    | cons s l ih =>
      intro acc
      rw [List.foldl_cons, ih, nums_cat, nums_cat, nums_tb]
      simp [flat]
      rfl
  have h := this l ⟨#[]⟩
  rw [show nums ⟨#[]⟩ = [] from rfl, List.nil_append] at h
  exact h
theorem chk_ok {n : Nat} (h : chk n = 0) : 1 ≤ n ∧ n ≤ 63 := by
  unfold chk at h
  split at h
  · assumption
  · cases h
theorem nck_of {ss : List ByteArray} (h1 : nsz ss ≤ 255) (h2 : labsOk ss) : nck ss = 0 := by
  unfold nck
  rw [if_pos h2, if_neg (by omega)]
theorem nck_take (ss : List ByteArray) (k : Nat) (h : nck ss = 0) : nck (ss.take k) = 0 := by
  have := nck_small h
  exact nck_of (Nat.le_trans (nsz_le ss k) this.1) (fun s hs => this.2 s (List.mem_of_mem_take hs))
end Go.Proofs.YtoppdmlmhigogaaDoor
namespace Go.Proofs.YtoppdmlmhigogaaDoor
open Go.ChangeShapes Go.WideShapes Go.ChangeAt Go.RowKit
set_option linter.unusedVariables false
set_option linter.unusedSimpArgs false
set_option maxRecDepth 100000 in
set_option maxHeartbeats 1000000 in
theorem psize_eq (a : Option Addr) (len cap : Nat) (ss : List ByteArray) (w : World) (hr : RdT w a ss) (hl : ss.length = len) (hm : nsz ss ≤ 1000000000000000) :
    Calls Tryd.prog 25 #[.slice a len cap] w fun e w' => e = .returned (.int .i64 (nsz ss)) ∧ w' = w := by
  have HR : Hid (RdT w a ss) := hr
  have HL : Hid (ss.length = len) := hl
  have hln : len ≤ 9223372036854775807 := by have := nsz_len ss; omega
  obtain ⟨T, hT⟩ : ∃ T, nsz ss = T := ⟨_, rfl⟩
  have HT : Hid (nsz ss = T) := hT
  rw [hT] at hm ⊢
  clear hr hl hT
  go_enter Tryd.func25, Tryd.ntmps25
  go_wp2_with fail
  go_loop [3, 8] (fun n x => ∃ k m : Nat, k ≤ len ∧ m ≤ T ∧ x = .int .i64 k ∧ n = .int .i64 m ∧ Hid (nsz (ss.take k) = m)) (fun _ x => len - (intOf x).toNat)
  case atStart => exact ⟨0, 1, Nat.zero_le _, by rw [← HT.out]; exact nsz_le ss 0, rfl, rfl, rfl⟩
  case round =>
    obtain ⟨k, m, hk, hmT, rfl, rfl, HM⟩ := hrel
    by_cases hlt : k < len
    · have hlt' : (k : Int) < (len : Int) := by omega
      have hks : k < ss.length := by rw [HL.out]; exact hlt
      obtain ⟨b, o, rfl, hb, hc⟩ := HR.out.at k hks
      have hn : nsz (ss.take (k + 1)) = m + ss[k].size + 1 := by rw [take_snocT ss k hks, nsz_snoc, HM.out]
      have hle := nsz_le ss (k + 1)
      rw [hn, HT.out] at hle
      have HN : Hid (nsz (ss.take (k + 1)) = m + ss[k].size + 1) := hn
      clear hn
      generalize ss[k] = s at *
      go_wp2
      go_round
      case rel => exact ⟨k + 1, m + s.size + 1, by omega, hle, by go_num, by go_num, HN⟩
      case measure => simp [intOf]; omega
    · have hge : (len : Int) ≤ (k : Int) := by omega
      have e : m = T := by rw [← HM.out, ← HT.out, List.take_of_length_le (by rw [HL.out]; omega)]
      subst e
      go_wp2
      go_ret
      exact ⟨rfl, rfl⟩
set_option maxRecDepth 100000 in
set_option maxHeartbeats 1000000 in
theorem pcheck_eq (a : Option Addr) (len cap : Nat) (ss : List ByteArray) (w : World) (hr : RdT w a ss) (hl : ss.length = len) (hm : nsz ss ≤ 1000000000000000) (hlen : len ≤ 9223372036854775807) (hz : ∀ s ∈ ss, s.size ≤ 9223372036854775807) :
    Calls Tryd.prog 13 #[.slice a len cap] w fun e w' => e = .returned (.int .i64 (nck ss)) ∧ w' = w := by
  have HR : Hid (RdT w a ss ∧ ∀ s ∈ ss, s.size ≤ 9223372036854775807) := ⟨hr, hz⟩
  have HL : Hid (ss.length = len) := hl
  have HS : Hid (∀ W, RdT W a ss → Calls Tryd.prog 25 #[.slice a len cap] W fun e w' => e = .returned (.int .i64 (nsz ss)) ∧ w' = W) := fun W hW => psize_eq a len cap ss W hW hl hm
  obtain ⟨T, hT⟩ : ∃ T, nsz ss = T := ⟨_, rfl⟩
  have HT : Hid (nsz ss = T) := hT
  rw [hT] at hm HS
  clear hr hl hT hz
  go_enter Tryd.func13, Tryd.ntmps13
  go_wp2_with fail
  go_loopw [8] (fun x wr => ∃ k : Nat, k ≤ len ∧ x = .int .i64 k ∧ wr = w ∧ Hid (∀ i (h : i < ss.length), i < k → chk ss[i].size = 0)) (fun x _ => len - (intOf x).toNat)
  case atStart => exact ⟨0, Nat.zero_le _, rfl, rfl, fun i _ h => absurd h (by omega)⟩
  case round =>
    obtain ⟨k, hk, rfl, rfl, HK⟩ := hrel
    by_cases hlt : k < len
    · have hlt' : (k : Int) < (len : Int) := by omega
      have hks : k < ss.length := by rw [HL.out]; exact hlt
      obtain ⟨b, o, rfl, hb, hc⟩ := HR.out.1.at k hks
      have HC : Hid (∀ W, Calls Tryd.prog 24 #[.string ss[k]] W fun e w' => e = .returned (.int .i64 (chk ss[k].size)) ∧ w' = W) := fun W => chk_any ss[k] W (HR.out.2 _ (List.getElem_mem hks))
      rcases chk_cases ss[k].size with hk0 | hk4
      · have HN : Hid (∀ i (h : i < ss.length), i < k + 1 → chk ss[i].size = 0) := by
          intro i h hi
          by_cases e : i = k
          · subst e; exact hk0
          · exact HK.out i h (by omega)
        rw [hk0] at HC
        clear hk0 HK
        generalize ss[k] = s at *
        go_wp2_with fail
        refine (HC.out _).mono ?_
        rintro e w1 ⟨rfl, rfl⟩
        go_wp2
        exact ⟨⟨k + 1, by omega, by go_num, trivial, HN⟩, by simp [intOf]; omega⟩
      · have HE : Hid (nck ss = 4) := by
          show nck ss = 4
          unfold nck
          rw [if_neg (fun h => by have := h _ (List.getElem_mem hks); rw [hk4] at this; cases this)]
        rw [hk4] at HC
        clear hk4 HK
        generalize ss[k] = s at *
        go_wp2_with fail
        refine (HC.out _).mono ?_
        rintro e w1 ⟨rfl, rfl⟩
        go_wp2
        go_ret
        exact ⟨by rw [HE.out]; rfl, rfl⟩
    · have hge : (len : Int) ≤ (k : Int) := by omega
      have HO : Hid (labsOk ss) := by
        intro s hs
        obtain ⟨i, hi, rfl⟩ := List.getElem_of_mem hs
        exact HK.out i hi (by have := HL.out; omega)
      by_cases hb : 255 < T
      · have HE : Hid (nck ss = 5) := by show nck ss = 5; unfold nck; rw [if_pos HO.out, HT.out, if_pos hb]
        have hb' : (255 : Int) < (T : Int) := by omega
        clear HK HO
        go_wp2_with fail
        refine (HS.out _ HR.out.1).mono ?_
        rintro e w1 ⟨rfl, rfl⟩
        go_wp2
        go_ret
        exact ⟨by rw [HE.out]; rfl, rfl⟩
      · have HE : Hid (nck ss = 0) := by show nck ss = 0; unfold nck; rw [if_pos HO.out, HT.out, if_neg hb]
        have hb' : ¬ (255 : Int) < (T : Int) := by omega
        clear HK HO
        go_wp2_with fail
        refine (HS.out _ HR.out.1).mono ?_
        rintro e w1 ⟨rfl, rfl⟩
        go_wp2
        go_ret
        exact ⟨by rw [HE.out]; rfl, rfl⟩
theorem pm_check {a : Option Addr} {n : Nat} {ss : List ByteArray} {w : World} (c : Nat) (h : Nm w a n ss) : Calls Tryd.prog 13 #[.slice a n c] w fun e w' => e = .returned (.int .i64 (nck ss)) ∧ w' = w :=
  pcheck_eq a n c ss w h.rd h.len (by have := h.sz; omega) (by have := h.n63; omega) (fun s hs => by have := h.mem s hs; omega)
end Go.Proofs.YtoppdmlmhigogaaDoor
namespace Go.Proofs.YtoppdmlmhigogaaDoor
open Go.ChangeShapes Go.WideShapes Go.ChangeAt Go.RowKit
set_option linter.unusedVariables false
set_option linter.unusedSimpArgs false
/-- Data: names, numbers, texts, bytes. -/
structure Dat where
  ns : List (List ByteArray)
  us : List Nat
  ts : List ByteArray
  raw : List Int
/-- What data of a type have: names, numbers, texts (-1: one or more), bytes (-1: any), a number's bytes. -/
structure Shp where
  nn : Nat
  nu : Nat
  nt : Int
  nr : Int
  wd : Nat
def shp (t : Nat) : Shp :=
  if t = 1 then ⟨0, 0, 0, 4, 0⟩ else if t = 28 then ⟨0, 0, 0, 16, 0⟩ else if t = 2 ∨ t = 5 ∨ t = 12 then ⟨1, 0, 0, 0, 0⟩ else if t = 6 then ⟨2, 5, 0, 0, 4⟩ else
  if t = 15 then ⟨1, 1, 0, 0, 2⟩ else if t = 33 then ⟨1, 3, 0, 0, 2⟩ else if t = 16 then ⟨0, 0, -1, 0, 0⟩ else if t = 257 then ⟨0, 1, 2, 0, 1⟩ else ⟨0, 0, 0, -1, 0⟩
def mayT (t : Nat) : Bool := decide (t ≠ 0) && (decide (t < 128) || decide (255 < t))
def most (wd : Nat) : Nat := if wd = 1 then 255 else if wd = 2 then 65535 else 4294967295
def alnum (z : Int) : Bool := (decide (97 ≤ z) && decide (z ≤ 122)) || (decide (65 ≤ z) && decide (z ≤ 90)) || (decide (48 ≤ z) && decide (z ≤ 57))
def tagB (s : ByteArray) : Bool := decide (1 ≤ s.size) && decide (s.size ≤ 15) && (nums s).all alnum
def fitsB (t : Nat) (d : Dat) : Bool :=
  decide (d.ns.length = (shp t).nn) && decide (d.us.length = (shp t).nu) && (decide ((shp t).nt < 0) || decide ((d.ts.length : Int) = (shp t).nt)) && (decide (0 ≤ (shp t).nt) || decide (d.ts.length ≠ 0)) &&
  (decide ((shp t).nr < 0) || decide ((d.raw.length : Int) = (shp t).nr)) && d.us.all (fun n => decide (n ≤ most (shp t).wd)) && (decide (t ≠ 16) || d.ts.all (fun s => decide (s.size ≤ 255))) && (decide (t ≠ 257) || tagB (d.ts.getD 0 ⟨#[]⟩))
/-- How many bytes texts have, with their lengths. -/
def tsz (t : Nat) (l : List ByteArray) : Nat := if t = 16 then (nby l).length else (match l with | [] => 0 | s :: r => s.size + 1 + (r.flatMap nums).length)
def sizesF (t : Nat) (d : Dat) : Nat := d.raw.length + d.us.length * (shp t).wd + (d.ns.map nsz).sum + tsz t d.ts
/-- The first error of names. -/
def nsErr : List (List ByteArray) → Int
  | [] => 0
  | n :: r => if nck n = 0 then nsErr r else nck n
def checkF (t : Nat) (d : Dat) : Int := if mayT t then (if fitsB t d then (if nsErr d.ns = 0 then (if 65535 < sizesF t d then 3 else 0) else nsErr d.ns) else 7) else 6
end Go.Proofs.YtoppdmlmhigogaaDoor
namespace Go.Proofs.YtoppdmlmhigogaaDoor
open Go.ChangeShapes Go.WideShapes Go.ChangeAt Go.RowKit
set_option linter.unusedVariables false
set_option linter.unusedSimpArgs false
theorem nsErr_all : ∀ l : List (List ByteArray), nsErr l = 0 ↔ ∀ n ∈ l, nck n = 0
  | [] => by simp [nsErr]
  | n :: r => by
    have ih := nsErr_all r
    unfold nsErr
    by_cases h : nck n = 0
    · rw [if_pos h, ih]; simp [h]
    · rw [if_neg h]; simp [h]
theorem check_parts {t : Nat} {d : Dat} (h : checkF t d = 0) : mayT t = true ∧ fitsB t d = true ∧ (∀ n ∈ d.ns, nck n = 0) ∧ sizesF t d ≤ 65535 := by
  unfold checkF at h
  split at h
  · rename_i h1
    split at h
    · rename_i h2
      split at h
      · rename_i h3
        split at h
        · cases h
        · rename_i h4
          exact ⟨h1, h2, (nsErr_all _).1 h3, by omega⟩
      · rename_i h3; exact absurd h h3
    · cases h
  · cases h
/-- The eleven ways of a type. -/
theorem shp_cases (t : Nat) : (t = 1 ∧ shp t = ⟨0, 0, 0, 4, 0⟩) ∨ (t = 28 ∧ shp t = ⟨0, 0, 0, 16, 0⟩) ∨ ((t = 2 ∨ t = 5 ∨ t = 12) ∧ shp t = ⟨1, 0, 0, 0, 0⟩) ∨ (t = 6 ∧ shp t = ⟨2, 5, 0, 0, 4⟩) ∨ (t = 15 ∧ shp t = ⟨1, 1, 0, 0, 2⟩) ∨ (t = 33 ∧ shp t = ⟨1, 3, 0, 0, 2⟩) ∨ (t = 16 ∧ shp t = ⟨0, 0, -1, 0, 0⟩) ∨ (t = 257 ∧ shp t = ⟨0, 1, 2, 0, 1⟩) ∨
    ((t ≠ 1 ∧ t ≠ 28 ∧ t ≠ 2 ∧ t ≠ 5 ∧ t ≠ 12 ∧ t ≠ 6 ∧ t ≠ 15 ∧ t ≠ 33 ∧ t ≠ 16 ∧ t ≠ 257) ∧ shp t = ⟨0, 0, 0, -1, 0⟩) := by
  by_cases h1 : t = 1
  · subst h1; left; exact ⟨rfl, rfl⟩
  by_cases h2 : t = 28
  · subst h2; right; left; exact ⟨rfl, rfl⟩
  by_cases h3 : t = 2 ∨ t = 5 ∨ t = 12
  · right; right; left; refine ⟨h3, ?_⟩; rcases h3 with rfl | rfl | rfl <;> rfl
  by_cases h4 : t = 6
  · subst h4; right; right; right; left; exact ⟨rfl, rfl⟩
  by_cases h5 : t = 15
  · subst h5; right; right; right; right; left; exact ⟨rfl, rfl⟩
  by_cases h6 : t = 33
  · subst h6; right; right; right; right; right; left; exact ⟨rfl, rfl⟩
  by_cases h7 : t = 16
  · subst h7; right; right; right; right; right; right; left; exact ⟨rfl, rfl⟩
  by_cases h8 : t = 257
  · subst h8; right; right; right; right; right; right; right; left; exact ⟨rfl, rfl⟩
  · right; right; right; right; right; right; right; right
    refine ⟨⟨h1, h2, fun e => h3 (.inl e), fun e => h3 (.inr (.inl e)), fun e => h3 (.inr (.inr e)), h4, h5, h6, h7, h8⟩, ?_⟩
    unfold shp
    rw [if_neg h1, if_neg h2, if_neg h3, if_neg h4, if_neg h5, if_neg h6, if_neg h7, if_neg h8]
end Go.Proofs.YtoppdmlmhigogaaDoor
namespace Go.Proofs.YtoppdmlmhigogaaDoor
open Go.ChangeShapes Go.WideShapes Go.ChangeAt Go.RowKit
set_option linter.unusedVariables false
set_option linter.unusedSimpArgs false
theorem nums_lb (l : List Int) (h : ∀ z ∈ l, 0 ≤ z ∧ z ≤ 255) : nums (lb l) = l := nums_back l h
theorem lb_nums (s : ByteArray) : lb (nums s) = s := txt_nums s
/-- Bytes as digits. -/
def xhexs (l : List Int) : List Int := l.flatMap fun c => [xhd (c / 16).toNat, xhd (c % 16).toNat]
theorem xhexs_len (l : List Int) : (xhexs l).length = 2 * l.length := by
  induction l with
  | nil => rfl
  | cons c l ih =>
    show (xhd (c / 16).toNat :: xhd (c % 16).toNat :: xhexs l).length = _
    simp only [List.length_cons, ih]; omega
theorem xhd_by (v : Nat) (h : v < 16) : 48 ≤ xhd v ∧ xhd v ≤ 102 := by unfold xhd; split <;> omega
theorem xhexs_by (l : List Int) (h : ∀ c ∈ l, 0 ≤ c ∧ c ≤ 255) : ∀ c ∈ xhexs l, 48 ≤ c ∧ c ≤ 102 := by
  intro c hc
  simp only [xhexs, List.mem_flatMap] at hc
  obtain ⟨b, hb, hc⟩ := hc
  have := h b hb
  simp only [List.mem_cons, List.not_mem_nil, or_false] at hc
  rcases hc with rfl | rfl
  · exact xhd_by _ (by omega)
  · exact xhd_by _ (by omega)
/-- Has a type data of its own? -/
def xkn (t : Nat) : Bool := [1, 2, 5, 6, 12, 15, 16, 28, 33, 257].contains t
def xqw (s : ByteArray) : ByteArray := lb (xquote (nums s))
def xtw (t : Nat) (ts : List ByteArray) : List ByteArray := if t = 257 then (match ts with | [] => [] | a :: r => a :: r.map xqw) else ts.map xqw
def xnw (n : Nat) : ByteArray := lb (xdec n)
/-- The words of data. -/
def xwords (t : Nat) (d : Dat) : List ByteArray :=
  if t = 1 ∨ t = 28 then [lb ((xaddr d.raw).getD [])]
  else if xkn t = false then lb [92, 35] :: xnw d.raw.length :: (if d.raw = [] then [] else [lb (xhexs d.raw)])
  else if t = 6 then d.ns.map (fun n => (ntext n).1) ++ d.us.map xnw
  else d.us.map xnw ++ d.ns.map (fun n => (ntext n).1) ++ xtw t d.ts
/-- A word as it is read: is it quoted? -/
def xterm (s : ByteArray) : ByteArray × Bool := if (nums s).head? = some 34 ∧ 2 ≤ s.size then (lb (nums s).tail.dropLast, true) else (s, false)
theorem xterm_no (s : ByteArray) (h : (nums s).head? ≠ some 34) : xterm s = (s, false) := by
  unfold xterm; rw [if_neg (fun e => h e.1)]
theorem xquote_by (l : List Int) (h : ∀ c ∈ l, 0 ≤ c ∧ c ≤ 255) : ∀ c ∈ xquote l, 0 ≤ c ∧ c ≤ 255 := fun c hc => by have := xquote_print l h c hc; omega
theorem xdec_by (n : Nat) : ∀ c ∈ xdec n, 0 ≤ c ∧ c ≤ 255 := fun c hc => by have := xdec_digit n c hc; omega
theorem xnw_nums (n : Nat) : nums (xnw n) = xdec n := nums_lb _ (xdec_by n)
theorem xjoin_mem (k c : Int) (ps : List (List Int)) (h : c ∈ xjoin k ps) : c = k ∨ ∃ p ∈ ps, c ∈ p := by
  induction ps with
  | nil => simp [xjoin] at h
  | cons p ps ih =>
    cases ps with
    | nil => exact .inr ⟨p, by simp, h⟩
    | cons q ps =>
      simp only [xjoin, List.mem_append, List.mem_cons] at h
      rcases h with h | h | h
      · exact .inr ⟨p, by simp, h⟩
      · exact .inl h
      · rcases ih h with h | ⟨x, h1, h2⟩
        · exact .inl h
        · exact .inr ⟨x, List.mem_cons_of_mem _ h1, h2⟩
def xok (c : Int) : Prop := 46 ≤ c ∧ c ≤ 102 ∧ c ≠ 92
theorem xhex_ok (n : Nat) : ∀ c ∈ xhex n, xok c := by
  induction n using Nat.strongRecOn with
  | _ n ih =>
    rw [xhex]
    have hd : ∀ v, v < 16 → xok (xhd v) := by intro v hv; unfold xhd xok; split <;> omega
    by_cases h : n < 16
    · rw [dif_pos h]; intro c hc; simp at hc; subst hc; exact hd n h
    · rw [dif_neg h]; intro c hc
      simp only [List.mem_append, List.mem_singleton] at hc
      rcases hc with hc | rfl
      · exact ih (n / 16) (by omega) c hc
      · exact hd _ (by omega)
theorem xcol_ok (l : List Nat) : ∀ c ∈ xcol l, xok c := by
  intro c hc
  rcases xjoin_mem _ _ _ hc with rfl | ⟨p, hp, hc⟩
  · unfold xok; omega
  · obtain ⟨n, _, rfl⟩ := List.mem_map.1 hp
    exact xhex_ok n c hc
theorem xa6_ok (l : List Nat) : ∀ c ∈ xa6 l, xok c := by
  intro c hc
  unfold xa6 at hc
  split at hc
  · exact xcol_ok _ c hc
  · simp only [List.mem_append, List.mem_cons] at hc
    rcases hc with h | rfl | rfl | h
    · exact xcol_ok _ c h
    · unfold xok; omega
    · unfold xok; omega
    · exact xcol_ok _ c h
theorem xaddr_ok (b s : List Int) (h : xaddr b = some s) : ∀ c ∈ s, xok c := by
  unfold xaddr at h
  split at h
  · injection h with h; subst h
    intro c hc
    rcases xjoin_mem _ _ _ hc with rfl | ⟨p, hp, hc⟩
    · unfold xok; omega
    · obtain ⟨n, _, rfl⟩ := List.mem_map.1 hp
      have := xdec_digit _ c hc
      unfold xok; omega
  · split at h
    · injection h with h; subst h; exact xa6_ok _
    · cases h
theorem xaddr_some (b : List Int) (h : b.length = 4 ∨ b.length = 16) : ∃ s, xaddr b = some s := by
  unfold xaddr
  split
  · exact ⟨_, rfl⟩
  · split
    · exact ⟨_, rfl⟩
    · omega
theorem lb_ne (l m : List Int) (hl : ∀ z ∈ l, 0 ≤ z ∧ z ≤ 255) (hm : ∀ z ∈ m, 0 ≤ z ∧ z ≤ 255) (h : l ≠ m) : lb l ≠ lb m := by
  intro e
  apply h
  rw [← nums_lb l hl, e, nums_lb m hm]
theorem addr_term (s : List Int) (h : ∀ c ∈ s, xok c) : nums (lb s) = s ∧ xterm (lb s) = (lb s, false) ∧ lb s ≠ lb [92, 35] := by
  have hb : ∀ z ∈ s, 0 ≤ z ∧ z ≤ 255 := fun z hz => by have := h z hz; unfold xok at this; omega
  refine ⟨nums_lb s hb, xterm_no _ ?_, lb_ne _ _ hb (by decide) ?_⟩
  · rw [nums_lb s hb]
    intro e
    have := h 34 (List.mem_of_mem_head? e)
    unfold xok at this; omega
  · rintro rfl
    have := h 92 (by simp)
    unfold xok at this; omega
end Go.Proofs.YtoppdmlmhigogaaDoor
namespace Go.Proofs.YtoppdmlmhigogaaDoor
open Go.ChangeShapes Go.WideShapes Go.ChangeAt Go.RowKit
set_option linter.unusedVariables false
set_option linter.unusedSimpArgs false
theorem strCells_eq (s : ByteArray) : Lib.strCells s = Lib.byteCells s.data.toList := by
  simp [Lib.strCells, Lib.byteCells]
set_option maxRecDepth 100000 in
set_option maxHeartbeats 1000000 in
theorem wstr (B b : Nat) (bs : List Value) (s : ByteArray) (w : World) (h : GS B w b bs) (hB : B ≤ b) (hs0 : 0 < s.size) (hl : bs.length + s.size ≤ 140737488355328) :
    Calls Tryd.prog 36 #[.pointer (some ⟨b, 0, none⟩), .string s] w fun e w' => e = .returned (.tuple #[.int .i64 s.size, .nilIface]) ∧ Hid (GS B w' b (bs ++ Lib.byteCells s.data.toList) ∧ Below B w w') := by
  have HG : Hid (GS B w b bs) := h
  have hcl : (Lib.byteCells s.data.toList).length = s.size := by rw [Lib.byteCells_length]; rfl
  have HCL : Hid ((Lib.byteCells s.data.toList).length = s.size) := hcl
  clear h hcl
  go_enter Tryd.func36, Tryd.ntmps36
  go_wp2_with fail
  refine (bcheck_any B b bs _ HG.out hB).mono ?_
  rintro e w1 ⟨rfl, H1⟩
  obtain ⟨v, h1, h2, h4⟩ := H1.out.1
  have HB1 : Hid (Below B w w1) := H1.out.2
  have HB : Hid (BB w1 b (.pointer (some ⟨b, 0, none⟩)) v ∧ w1.ownsRow B 5 1 v bs.length bs) := ⟨h1, h2⟩
  have c1 := h1.c1
  have hlt := h1.lt
  clear h1 h2 H1 HG
  obtain ⟨i5, hi, hz0, hz1, hz2⟩ := info_parts Tryd.info5
  have HI : Hid (Tryd.prog.info? 5 = some i5 ∧ i5.zero = some (.int .u8 0) ∧ i5.size = 1 ∧ i5.bytes = 1) := ⟨hi, hz0, hz1, hz2⟩
  clear hi hz0 hz1 hz2
  go_wp2_with (at_builtin; refine Lib.wpList_append_own_string _ rfl _ _ 33 9 rfl B 5 i5 Tryd.underlying33 Tryd.underlying9 HI.out.1 HI.out.2.1 HI.out.2.2.1 HI.out.2.2.2 v bs.length bs rfl HB.out.2 s rfl (by simp only [maxLen]; omega) (by omega) (by omega) ?_; intro v' w2 hown2 hgr2 hnil; obtain ⟨ao, cc, rfl⟩ := row_shape hown2; have hbk : Hid (w2.heap[b]? = w1.heap[b]?) := (hgr2.block b hlt (fun e => h4 e.symm)); have d1 := (HB.out.1.same hbk.out).c1; have d2 := (HB.out.1.same hbk.out).fz 1; have HG2 : Hid (w1.grownBy w2 v.ownBlock ∧ w2.ownsRow B 5 1 (.slice ao (bs.length + s.size) cc) (bs.length + s.size) (bs ++ Lib.byteCells s.data.toList)) := ⟨hgr2, by rw [← strCells_eq]; exact hown2⟩; clear hown2 hgr2 hnil)
  go_ret2
  have hb2 := HB.out.1.same hbk.out
  have hrow : ∀ g, v.ownBlock = some g → B ≤ g := fun g hg => (HB.out.2.lt g hg).1
  have hbel : Below B w1 w2 := (Below.refl B w1).grown HG2.out.1 (by omega) hrow
  have hne : (Value.slice ao (bs.length + s.size) cc).ownBlock ≠ some b := by
    intro e
    obtain ⟨_, hc | ⟨g, cap, cur, hv, _, hg, _⟩⟩ := HG2.out.2
    · rw [hc.1] at e; simp [Value.ownBlock] at e
    · rw [hv] at e
      have e2 : g = b := by simpa [Value.ownBlock] using e
      rw [e2] at hg
      have hb3 : w2.heap[b]? = _ := hb2
      rw [hb3] at hg
      injection hg with hg
      injection hg with _ hg _
      exact absurd hg (by decide)
  have hn2 : bs ++ Lib.byteCells s.data.toList ≠ [] := by
    intro e
    have := congrArg List.length e
    rw [List.length_append, HCL.out, List.length_nil] at this
    omega
  refine ⟨rfl, .inr ⟨⟨.slice ao (bs.length + s.size) cc, ?_, ?_, hne⟩, hn2⟩, HB1.out.trans (hbel.setCell hB _)⟩
  · have := heap_set hb2 1 (.slice ao (bs.length + s.size) cc)
    simpa [BB] using this
  · have := row_set HG2.out.2 hne 1 (.slice ao (bs.length + s.size) cc)
    rw [List.length_append, HCL.out]
    exact this
theorem cells_append (a b : ByteArray) : Lib.byteCells (a ++ b).data.toList = Lib.byteCells a.data.toList ++ Lib.byteCells b.data.toList := by
  simp [Lib.byteCells]
theorem tb_pos (s : ByteArray) (h : 1 ≤ s.size) : 0 < (tb s).size := by
  have e : (tb s).size = (tx (nums s)).length := txt_size _
  have hl := nums_len s
  rw [e]
  cases hn : nums s with
  | nil => rw [hn] at hl; simp at hl; omega
  | cons x l =>
    have := (tx1_len x).2
    simp only [tx, List.flatMap_cons, List.length_append]
    omega
set_option maxRecDepth 100000 in
set_option maxHeartbeats 1000000 in
theorem ptext_any (a : Option Addr) (n c : Nat) (ss : List ByteArray) (w : World) (h : Nm w a n ss) : Calls Tryd.prog 23 #[.slice a n c] w fun e w' => e = .returned (.tuple #[.string (ntext ss).1, .int .i64 (ntext ss).2]) ∧ Hid (Below w.heap.size w w') := by
  have KC : Hid (Calls Tryd.prog 13 #[.slice a n c] w fun e w' => e = .returned (.int .i64 (nck ss)) ∧ w' = w) := pm_check c h
  have HN : Hid (Nm w a n ss) := h
  have hn := h.n63
  have HL : Hid (ss.length = n) := h.len
  by_cases hk : nck ss = 0
  · rw [hk] at KC
    have hsm := (nck_small hk).1
    have HLB : Hid (∀ s ∈ ss, 1 ≤ s.size) := fun s hs => (chk_ok ((nck_small hk).2 s hs)).1
    by_cases h0 : n = 0
    · have hp : ntext ss = (⟨#[46]⟩, 0) := by unfold ntext; rw [if_pos hk, if_pos (by rw [h.len]; exact h0)]
      rw [hp]
      subst h0
      clear h hk hp
      go_enter Tryd.func23, Tryd.ntmps23
      go_wp2_with fail
      refine KC.out.mono ?_
      rintro e w1 ⟨rfl, rfl⟩
      go_wp2
      go_ret2
      exact ⟨rfl, Below.refl _ _⟩
    · have hp : ntext ss = (ntxt ss, 0) := by unfold ntext; rw [if_pos hk, if_neg (by rw [h.len]; exact h0)]
      rw [hp]
      have h0' : ((n : Int) == 0) = false := by simp; omega
      have HSZ : Hid (∀ k, k ≤ ss.length → (ntxt (ss.take k)).size ≤ 1020) := fun k hk => by have := ntxt_size ss k hk; omega
      obtain ⟨R, hR⟩ : ∃ R, ntxt ss = R := ⟨_, rfl⟩
      have HRR : Hid (ntxt ss = R) := hR
      rw [hR]
      clear h hk hp hR
      have H0 : Hid (GS w.heap.size (w.alloc (.cells #[.pointer none, .slice none 0 0] 46)) w.heap.size [] ∧ Below w.heap.size w (w.alloc (.cells #[.pointer none, .slice none 0 0] 46))) := ⟨GS.fresh w, (Below.refl _ _).alloc (Nat.le_refl _) _⟩
      go_enter Tryd.func23, Tryd.ntmps23
      go_wp2_with fail
      refine KC.out.mono ?_
      rintro e w1 ⟨rfl, rfl⟩
      go_wp2_with fail
      go_loopw [18] (fun x wr => ∃ (k : Nat) (t : ByteArray), k ≤ n ∧ x = .int .i64 k ∧ t.size ≤ 1020 ∧ Hid (ntxt (ss.take k) = t) ∧ Hid (GS w1.heap.size wr w1.heap.size (Lib.byteCells t.data.toList) ∧ Below w1.heap.size w1 wr)) (fun x _ => n - (intOf x).toNat)
      case atStart => exact ⟨0, ⟨#[]⟩, Nat.zero_le _, rfl, by decide, rfl, H0⟩
      case round =>
        clear H0
        obtain ⟨k, t, hkn, rfl, htz, HT, HB⟩ := hrel
        by_cases hlt : k < n
        · have hlt' : (k : Int) < (n : Int) := by omega
          have hks : k < ss.length := by rw [HL.out]; exact hlt
          obtain ⟨b, o, rfl, hb, hc⟩ := (HN.out.below HB.out.2).rd.at k hks
          have hsz := Nat.le_trans (nsz_mem ss _ (List.getElem_mem hks)) hsm
          have HT2 : Hid (ntxt (ss.take (k + 1)) = t ++ tb ss[k] ++ ⟨#[46]⟩) := by show _ = _; rw [take_snocT ss k hks, ntxt_snoc, HT.out]
          have hz2 := HSZ.out (k + 1) (by omega)
          rw [HT2.out] at hz2
          have KT : Hid (∀ W, Calls Tryd.prog 43 #[.string ss[k]] W fun e w' => e = .returned (.string (tb ss[k])) ∧ Hid (Below W.heap.size W w')) := fun W => text_any ss[k] W (by omega)
          have htb : (tb ss[k]).size ≤ 1020 := by have := tb_size ss[k]; omega
          have htp : 0 < (tb ss[k]).size := tb_pos _ (HLB.out _ (List.getElem_mem hks))
          generalize tb ss[k] = f at *
          generalize ss[k] = s at *
          have KW1 : Hid (∀ W, GS w1.heap.size W w1.heap.size (Lib.byteCells t.data.toList) → Calls Tryd.prog 36 #[.pointer (some ⟨w1.heap.size, 0, none⟩), .string f] W fun e w' => e = .returned (.tuple #[.int .i64 f.size, .nilIface]) ∧ Hid (GS w1.heap.size w' w1.heap.size (Lib.byteCells (t ++ f).data.toList) ∧ Below w1.heap.size W w')) := fun W hW => by
            have := wstr w1.heap.size w1.heap.size _ f W hW (Nat.le_refl _) htp (by rw [Lib.byteCells_length]; have : t.data.toList.length = t.size := rfl; omega)
            rw [← cells_append] at this
            exact this
          have KW2 : Hid (∀ W, GS w1.heap.size W w1.heap.size (Lib.byteCells (t ++ f).data.toList) → Calls Tryd.prog 36 #[.pointer (some ⟨w1.heap.size, 0, none⟩), .string ⟨#[46]⟩] W fun e w' => e = .returned (.tuple #[.int .i64 1, .nilIface]) ∧ Hid (GS w1.heap.size w' w1.heap.size (Lib.byteCells (t ++ f ++ ⟨#[46]⟩).data.toList) ∧ Below w1.heap.size W w')) := fun W hW => by
            have := wstr w1.heap.size w1.heap.size _ ⟨#[46]⟩ W hW (Nat.le_refl _) (by decide) (by rw [Lib.byteCells_length]; have : (t ++ f).data.toList.length = (t ++ f).size := rfl; rw [this, ByteArray.size_append]; show _ + 1 ≤ _; omega)
            rw [← cells_append] at this
            exact this
          go_wp2_with fail
          refine (KT.out _).mono ?_
          rintro e w2 ⟨rfl, H2⟩
          have HG2 : Hid (GS w1.heap.size w2 w1.heap.size (Lib.byteCells t.data.toList) ∧ Below w1.heap.size w1 w2) := by
            refine ⟨?_, HB.out.2.trans (H2.out.mono HB.out.2.size)⟩
            rcases HB.out.1 with ⟨g1, g2⟩ | ⟨⟨v, g1, g2, g3⟩, g4⟩
            · exact .inl ⟨g1.same (H2.out.block _ g1.lt), g2⟩
            · exact .inr ⟨⟨v, g1.same (H2.out.block _ g1.lt), g2.kept (row := none) ⟨H2.out.os, H2.out.tape, H2.out.output, H2.out.size, fun k hk _ => H2.out.block k hk⟩ (by rcases hv : v.ownBlock with _ | g; exact .inl rfl; exact .inr (by simp)), g3⟩, g4⟩
          clear hc KT HB H2
          go_wp2_with fail
          refine (KW1.out _ HG2.out.1).mono ?_
          rintro e w3 ⟨rfl, H3⟩
          go_wp2_with fail
          refine (KW2.out _ H3.out.1).mono ?_
          rintro e w4 ⟨rfl, H4⟩
          go_wp2
          refine ⟨⟨k + 1, _, by omega, by go_num, hz2, HT2, H4.out.1, (HG2.out.2.trans H3.out.2).trans H4.out.2⟩, by simp [intOf]; omega⟩
        · have hge : (n : Int) ≤ (k : Int) := by omega
          have e : t = R := by rw [← HT.out, ← HRR.out, List.take_of_length_le (by rw [HL.out]; omega)]
          subst e
          go_wp2_with fail
          refine (wstring w1.heap.size w1.heap.size t.data.toList _ HB.out.1 (by have : t.data.toList.length = t.size := rfl; omega)).mono ?_
          rintro e w2 ⟨rfl, H2⟩
          go_wp2
          go_ret2
          exact ⟨rfl, HB.out.2.trans H2.out⟩
  · have hp : ntext ss = (⟨#[]⟩, nck ss) := by unfold ntext; rw [if_neg hk]
    rw [hp]
    generalize nck ss = q at *
    have hq : (q != 0) = true := bne_iff_ne.2 hk
    clear h hk hp
    go_enter Tryd.func23, Tryd.ntmps23
    go_wp2_with fail
    refine KC.out.mono ?_
    rintro e w1 ⟨rfl, rfl⟩
    go_wp2
    go_ret2
    exact ⟨rfl, Below.refl _ _⟩
end Go.Proofs.YtoppdmlmhigogaaDoor
namespace Go.Proofs.YtoppdmlmhigogaaDoor
open Go.ChangeShapes Go.WideShapes Go.ChangeAt Go.RowKit Go.Deep
set_option linter.unusedVariables false
set_option linter.unusedSimpArgs false
/-- A slice's value: address, length, room. -/
structure Sl where
  a : Option Addr
  n : Nat
  c : Nat
/-- Numbers of four bytes. -/
def uv (us : List Nat) : List Value := us.map fun (n : Nat) => Value.int .u32 (n : Int)
theorem uv_len (us : List Nat) : (uv us).length = us.length := by simp [uv]
/-- A list of texts that can be read. -/
structure TRd (w : World) (s : Sl) (ss : List ByteArray) : Prop where
  rd : RdT w s.a ss
  len : ss.length = s.n
  cap : s.n ≤ s.c ∧ s.c ≤ 9223372036854775807
  nil : s.a = none → s.c = 0
  z63 : ∀ x ∈ ss, x.size ≤ 9223372036854775807
theorem TRd.below {w w' : World} {s : Sl} {ss : List ByteArray} (h : TRd w s ss) (hb : Below w.heap.size w w') : TRd w' s ss := ⟨h.rd.below hb, h.len, h.cap, h.nil, h.z63⟩
/-- A list of names that can be read: at each place a list of texts. -/
structure NRd (w : World) (s : Sl) (nss : List (List ByteArray)) : Prop where
  rd : nss = [] ∨ ∃ b o, s.a = some ⟨b, o, none⟩ ∧ b < w.heap.size ∧ ∀ i (h : i < nss.length), ∃ x : Sl, w.cell? ⟨b, o + i, none⟩ = some (.slice x.a x.n x.c) ∧ TRd w x nss[i]
  len : nss.length = s.n
  cap : s.n ≤ s.c ∧ s.c ≤ 9223372036854775807
  nil : s.a = none → s.c = 0
theorem NRd.below {w w' : World} {s : Sl} {nss : List (List ByteArray)} (h : NRd w s nss) (hb : Below w.heap.size w w') : NRd w' s nss := by
  refine ⟨?_, h.len, h.cap, h.nil⟩
  rcases h.rd with h1 | ⟨b, o, h1, h2, h3⟩
  · exact .inl h1
  · refine .inr ⟨b, o, h1, Nat.lt_of_lt_of_le h2 hb.size, fun i hi => ?_⟩
    obtain ⟨x, h4, h5⟩ := h3 i hi
    exact ⟨x, (hb.cell (p := ⟨b, o + i, none⟩) h2).trans h4, h5.below hb⟩
theorem NRd.at {w : World} {s : Sl} {nss : List (List ByteArray)} (h : NRd w s nss) (i : Nat) (hi : i < nss.length) : ∃ b o, s.a = some ⟨b, o, none⟩ ∧ b < w.heap.size ∧ ∃ x : Sl, w.cell? ⟨b, o + i, none⟩ = some (.slice x.a x.n x.c) ∧ TRd w x nss[i] := by
  rcases h.rd with h1 | ⟨b, o, h1, h2, h3⟩
  · subst h1; simp at hi
  · exact ⟨b, o, h1, h2, h3 i hi⟩
/-- A list of numbers that can be read. -/
structure URd (w : World) (s : Sl) (us : List Nat) : Prop where
  rd : RdV w s.a (uv us)
  len : us.length = s.n
  cap : s.n ≤ s.c ∧ s.c ≤ 9223372036854775807
  nil : s.a = none → s.c = 0
  bd : ∀ x ∈ us, x ≤ 4294967295
theorem URd.below {w w' : World} {s : Sl} {us : List Nat} (h : URd w s us) (hb : Below w.heap.size w w') : URd w' s us := ⟨h.rd.below hb, h.len, h.cap, h.nil, h.bd⟩
theorem URd.at {w : World} {s : Sl} {us : List Nat} (h : URd w s us) (i : Nat) (hi : i < us.length) : ∃ b o, s.a = some ⟨b, o, none⟩ ∧ b < w.heap.size ∧ w.cell? ⟨b, o + i, none⟩ = some (.int .u32 (us[i] : Int)) := by
  rcases h.rd with h1 | ⟨b, o, h1, h2, h3⟩
  · have := congrArg List.length h1
    rw [uv_len] at this
    simp at this
    subst this
    simp at hi
  · refine ⟨b, o, h1, h2, ?_⟩
    rw [h3 i (by rw [uv_len]; exact hi)]
    simp [uv]
/-- A list of bytes that can be read. -/
structure BRd (w : World) (s : Sl) (zs : List Int) : Prop where
  rd : Rd w s.a zs
  len : zs.length = s.n
  cap : s.n ≤ s.c ∧ s.c ≤ 9223372036854775807
  nil : s.a = none → s.c = 0
theorem BRd.below {w w' : World} {s : Sl} {zs : List Int} (h : BRd w s zs) (hb : Below w.heap.size w w') : BRd w' s zs := ⟨h.rd.below hb, h.len, h.cap, h.nil⟩
/-- Where data lie. -/
structure DA where
  p1 : Sl
  p2 : Sl
  p3 : Sl
  p4 : Sl
/-- Data that can be read. -/
structure DRd (w : World) (x : DA) (d : Dat) : Prop where
  h1 : NRd w x.p1 d.ns
  h2 : URd w x.p2 d.us
  h3 : TRd w x.p3 d.ts
  h4 : BRd w x.p4 d.raw
theorem DRd.below {w w' : World} {x : DA} {d : Dat} (h : DRd w x d) (hb : Below w.heap.size w w') : DRd w' x d := ⟨h.h1.below hb, h.h2.below hb, h.h3.below hb, h.h4.below hb⟩
variable {H : Type} {enc : TypeId × Value → H} {W : World}
variable {H : Type} {enc : TypeId × Value → H} {W : World}
end Go.Proofs.YtoppdmlmhigogaaDoor

