/- Texts laid together: Row Tl Tm Base Own Str Byt Bld Bld2 Txt Fld Ord Rtx Par Rpar. -/
import Derived.WalkKit
import Derived.ProofKit
import Derived.Below
import Derived.OwnWalk
import Derived.Laws.AppendOwn
import Derived.Laws.CopyOwn
import Derived.Deep.AppendSrc
import Derived.Test.YtdeoembjfdbbkaaRows
import Derived.WalkSpells
import Derived.Deep.QuietTactic
import Derived.BigQuiet
import Derived.Deep.RegionHeld3
import Derived.Laws.BitsAllLaws
import Derived.Laws.IdiomStrings
import Derived.Lib.Builder
import Derived.Lib.UnsafeStr
import Derived.Lib.Bytealg
/- Lists of one-cell values in blocks of one's own, of any program: what stays of them, and what append does. -/
namespace Go.Proofs.Ytdeoembjfdbbkaa
open Go.ChangeShapes Go.WideShapes Go.ChangeAt Go.RowKit
set_option linter.unusedVariables false
set_option linter.unusedSimpArgs false


/-- From the address on the values lie there. -/
def RdV (w : World) (a : Option Addr) (xs : List Value) : Prop :=
  xs = [] ∨ ∃ b o, a = some ⟨b, o, none⟩ ∧ b < w.heap.size ∧ ∀ i (h : i < xs.length), w.cell? ⟨b, o + i, none⟩ = some xs[i]
theorem RdV.below {w w' : World} {a : Option Addr} {xs : List Value} (h : RdV w a xs) (hb : Below w.heap.size w w') : RdV w' a xs := by
  rcases h with h1 | ⟨b, o, rfl, h1, h2⟩
  · exact .inl h1
  · exact .inr ⟨b, o, rfl, Nat.lt_of_lt_of_le h1 hb.size, fun i hi => (hb.cell (p := ⟨b, o + i, none⟩) h1).trans (h2 i hi)⟩
theorem RdV.cut {w : World} {a : Option Addr} {xs : List Value} (h : RdV w a xs) (p n : Nat) {a' : Option Addr}
    (ha : p < xs.length → ∀ b o, a = some ⟨b, o, none⟩ → a' = some ⟨b, o + p, none⟩) : RdV w a' ((xs.drop p).take n) := by
  by_cases h0 : (xs.drop p).take n = []
  · exact .inl h0
  · rcases h with h1 | ⟨b, o, rfl, h1, h2⟩
    · subst h1; simp at h0
    · have hp : p < xs.length := by
        by_cases hp : p < xs.length
        · exact hp
        · rw [List.drop_eq_nil_of_le (by omega)] at h0; simp at h0
      refine .inr ⟨b, o + p, ha hp b o rfl, h1, fun i hi => ?_⟩
      have hi2 : p + i < xs.length := by simp at hi; omega
      rw [Nat.add_assoc, h2 (p + i) hi2]
      simp
theorem RdV.cells {w : World} {a : Addr} {xs : List Value} (h : RdV w (some a) xs) : ∀ j u, xs[j]? = some u → w.cell? (a.add j) = some u := by
  intro j u hu
  obtain ⟨hj, e⟩ := List.getElem?_eq_some_iff.1 hu
  rcases h with h1 | ⟨b, o, e1, _, h2⟩
  · subst h1; simp at hj
  · cases e1
    rw [Addr.add_lit, h2 j hj, e]
/-- A block that holds just these, and may be written. -/
def BlkV (w : World) (g : Nat) (t : TypeId) (xs : List Value) : Prop := w.heap[g]? = some (.cells xs.toArray t (0, 0))
theorem BlkV.lt {w : World} {g : Nat} {t : TypeId} {xs : List Value} (h : BlkV w g t xs) : g < w.heap.size := (Array.getElem?_eq_some_iff.1 h).1
theorem BlkV.same {w w' : World} {g : Nat} {t : TypeId} {xs : List Value} (h : BlkV w g t xs) (hb : w'.heap[g]? = w.heap[g]?) : BlkV w' g t xs := hb.trans h
theorem BlkV.below {w w' : World} {g : Nat} {t : TypeId} {xs : List Value} (h : BlkV w g t xs) (hb : Below w.heap.size w w') : BlkV w' g t xs := h.same (hb.block g h.lt)
theorem BlkV.cell {w : World} {g : Nat} {t : TypeId} {xs : List Value} (h : BlkV w g t xs) (i : Nat) (hi : i < xs.length) : w.cell? ⟨g, i, none⟩ = some xs[i] := by
  have h' : w.heap[g]? = _ := h
  simp [World.cell?, h', hi]
theorem BlkV.frozen {w : World} {g : Nat} {t : TypeId} {xs : List Value} (h : BlkV w g t xs) (i : Nat) : w.frozen? ⟨g, i, none⟩ = false := by
  have h' : w.heap[g]? = _ := h
  simp [World.frozen?, h']
theorem BlkV.rd {w : World} {g : Nat} {t : TypeId} {xs : List Value} (h : BlkV w g t xs) (n : Nat) : RdV w (some ⟨g, 0, none⟩) (xs.take n) := by
  refine .inr ⟨g, 0, rfl, h.lt, fun i hi => ?_⟩
  have : i < xs.length := by simp at hi; omega
  rw [Nat.zero_add, h.cell i this]
  simp
theorem BlkV.new (w : World) (t : TypeId) (xs : List Value) : BlkV (w.alloc (.cells xs.toArray t)) w.heap.size t xs := heap_alloc_new _ _
theorem BlkV.stored {w : World} {g : Nat} {t : TypeId} {xs : List Value} (h : BlkV w g t xs) (i : Nat) (x : Value) : BlkV (w.setCell ⟨g, i, none⟩ x) g t (xs.set i x) := by
  have hg := h.lt
  have h1 : w.heap[g]? = _ := h
  have e : w.heap[g] = .cells xs.toArray t (0, 0) := by
    rw [Array.getElem?_eq_getElem hg] at h1; exact Option.some.inj h1
  unfold BlkV
  simp [World.setCell, hg, Array.getElem_modify, e]
theorem BlkV.cellsSet : ∀ (vs : List Value) (o : Nat) {w : World} {g : Nat} {t : TypeId} {xs : List Value}, BlkV w g t xs → o + vs.length ≤ xs.length →
    BlkV (w.setCells g o vs) g t (xs.take o ++ vs ++ xs.drop (o + vs.length)) ∧ w.grownBy (w.setCells g o vs) (some g)
  | [], o, w, g, t, xs, h, _ => ⟨by simpa [World.setCells] using h, World.grownBy.refl _ _⟩
  | v :: r, o, w, g, t, xs, h, hl => by
    have hl' : o + 1 + r.length ≤ (xs.set o v).length := by simp at hl ⊢; omega
    obtain ⟨h1, h2⟩ := BlkV.cellsSet r (o + 1) (h.stored o v) hl'
    have e1 : (xs.set o v).take (o + 1) ++ r ++ (xs.set o v).drop (o + 1 + r.length) = xs.take o ++ (v :: r) ++ xs.drop (o + (v :: r).length) := by
      have ho : o < xs.length := by simp at hl; omega
      have ht : (xs.set o v).take (o + 1) = xs.take o ++ [v] := by
        rw [List.take_succ_eq_append_getElem (by simpa using ho), List.take_set_of_le (Nat.le_refl _)]
        simp
      have hd : (xs.set o v).drop (o + 1 + r.length) = xs.drop (o + (v :: r).length) := by
        rw [List.drop_set_of_lt (by omega)]
        congr 1
        simp; omega
      rw [ht, hd]
      simp
    rw [e1] at h1
    refine ⟨h1, ?_⟩
    have h0 : w.grownBy (w.setCell ⟨g, o, none⟩ v) (some g) := ⟨rfl, rfl, rfl, by simp [World.setCell], fun k _ hk => Below.heap_setCell _ _ _ _ (fun e => hk (by simp [e]))⟩
    exact ⟨h2.os.trans h0.os, h2.tape.trans h0.tape, h2.output.trans h0.output, Nat.le_trans h0.size h2.size, fun k hk hne => (h2.block k (Nat.lt_of_lt_of_le hk h0.size) hne).trans (h0.block k hk hne)⟩
/-- A list in a block of its own, from the block B on: n of them, the block's whole cells are xs. -/
def OwnV (B : Nat) (w : World) (t : TypeId) (v : Value) (n : Nat) (xs : List Value) : Prop :=
  (v = .slice none 0 0 ∧ n = 0 ∧ xs = []) ∨
  ∃ g, v = .slice (some ⟨g, 0, none⟩) n xs.length ∧ B ≤ g ∧ BlkV w g t xs ∧ n ≤ xs.length ∧ xs.length ≤ maxLen
theorem OwnV.keep {B : Nat} {w w' : World} {t : TypeId} {v : Value} {n : Nat} {xs : List Value} (h : OwnV B w t v n xs) (hb : ∀ g, v.ownBlock = some g → g < w.heap.size → w'.heap[g]? = w.heap[g]?) : OwnV B w' t v n xs := by
  rcases h with h | ⟨g, rfl, h2, h3, h4⟩
  · exact .inl h
  · exact .inr ⟨g, rfl, h2, h3.same (hb g rfl h3.lt), h4⟩
theorem OwnV.below {B : Nat} {w w' : World} {t : TypeId} {v : Value} {n : Nat} {xs : List Value} (h : OwnV B w t v n xs) (hb : Below w.heap.size w w') : OwnV B w' t v n xs := h.keep fun g _ hg => hb.block g hg
theorem OwnV.mono {B B' : Nat} {w : World} {t : TypeId} {v : Value} {n : Nat} {xs : List Value} (h : OwnV B w t v n xs) (hB : B' ≤ B) : OwnV B' w t v n xs := by
  rcases h with h | ⟨g, h1, h2, h3⟩
  · exact .inl h
  · exact .inr ⟨g, h1, Nat.le_trans hB h2, h3⟩
theorem OwnV.lt {B : Nat} {w : World} {t : TypeId} {v : Value} {n : Nat} {xs : List Value} (h : OwnV B w t v n xs) : ∀ g, v.ownBlock = some g → B ≤ g := by
  intro g hg
  rcases h with ⟨rfl, _⟩ | ⟨g', rfl, h2, _⟩
  · cases hg
  · have : g' = g := Option.some.inj hg
    omega
theorem OwnV.shape {B : Nat} {w : World} {t : TypeId} {v : Value} {n : Nat} {xs : List Value} (h : OwnV B w t v n xs) : ∃ ao, v = .slice ao n xs.length ∧ (ao = none → xs.length = 0) := by
  rcases h with ⟨rfl, rfl, rfl⟩ | ⟨g, rfl, _⟩
  · exact ⟨none, rfl, fun _ => rfl⟩
  · exact ⟨_, rfl, fun h => by cases h⟩
theorem OwnV.le {B : Nat} {w : World} {t : TypeId} {v : Value} {n : Nat} {xs : List Value} (h : OwnV B w t v n xs) : n ≤ xs.length ∧ xs.length ≤ maxLen := by
  rcases h with ⟨_, rfl, rfl⟩ | ⟨g, _, _, _, h4, h5⟩
  · exact ⟨Nat.le_refl _, Nat.zero_le _⟩
  · exact ⟨h4, h5⟩
theorem OwnV.rd {B : Nat} {w : World} {t : TypeId} {ao : Option Addr} {n c : Nat} {xs : List Value} (h : OwnV B w t (.slice ao n c) n xs) (m : Nat) : RdV w ao (xs.take m) := by
  rcases h with ⟨_, _, rfl⟩ | ⟨g, e, _, h3, _⟩
  · exact .inl (by simp)
  · have : ao = some ⟨g, 0, none⟩ := by injection e
    rw [this]; exact h3.rd m
theorem OwnV.nil (B : Nat) (w : World) (t : TypeId) : OwnV B w t (.slice none 0 0) 0 [] := .inl ⟨rfl, rfl, rfl⟩
/-- A list's source: what is appended. -/
theorem src_of {P : Program} {w : World} {tx e' : TypeId} (hk : P.underlying tx = some (.slice e')) {ao : Option Addr} {m c : Nat} {news : List Value} (hr : RdV w ao news) (hl : news.length = m) (h1 : ∀ u ∈ news, u.oneCell' = true) : Src P 1 tx (.slice ao m c) m news w := by
  cases ao with
  | none =>
    have hn : news = [] := by
      rcases hr with h | ⟨b, o, h, _⟩
      · exact h
      · cases h
    subst hn
    subst hl
    exact Src.ofNil w hk c
  | some a => exact Src.ofSlice w hk a m c news (by simp [hl]) hr.cells h1
theorem zeros_eq1 (z : Value) (hz : z.cells = #[z]) (k : Nat) : Builtin.zeroCells z.cells k = (List.replicate k z).toArray := by
  rw [hz]
  apply Array.ext
  · simp [Builtin.zeroCells]
  · intro i h1 h2
    simp [Builtin.zeroCells]
    have : i % 1 = 0 := by omega
    simp [this]
/-- What is known of an element's type. -/
structure ElemTy (P : Program) (t e : TypeId) (z : Value) (bt : Nat) : Prop where
  ht : P.underlying t = some (.slice e)
  hi : (P.info? e).map (fun i => (i.zero, i.size, i.bytes)) = some (some z, 1, bt)
  hz : z.cells = #[z]
theorem run_append_row {P : Program} {t e : TypeId} {z : Value} {bt : Nat} (T : ElemTy P t e z bt) (w : World) (B : Nat) (tx ty : TypeId) (v : Value) (n : Nat) (xs : List Value) (hown : OwnV B w e v n xs)
    (x : Value) (m : Nat) (news : List Value) (hs : Src P 1 tx x m news w) (hb : (n + m) * bt ≤ 140737488355328) (h63 : n + m ≤ maxLen) (hB : B ≤ w.heap.size) :
    ∃ v' w' xs', (Builtin.append_ #[t, tx] ty #[v, x]).run P w = .ok v' w' ∧ OwnV B w' e v' (n + m) xs' ∧ xs'.take (n + m) = xs.take n ++ news ∧ w.grownBy w' v.ownBlock ∧ (∀ Q : Value → Prop, Q z → (∀ u ∈ xs, Q u) → (∀ u ∈ news, Q u) → ∀ u ∈ xs', Q u) ∧ (n + m ≤ xs.length → xs'.length = xs.length) := by
  obtain ⟨i, hi, hz0, hz1, hz2⟩ := info_parts T.hi
  have hs' : Src P i.size tx x m news w := by rw [hz1]; exact hs
  have hnl : news.length = m := by simpa using hs.newsLen
  have grow : ∀ (base : Option Addr) (old : Nat), v = .slice base n old → old < n + m → (Builtin.firstCells i.size n (.slice base n old)).run P w.drew = .ok (xs.take n).toArray w.drew → (xs.take n).length = n → (n + m ≤ xs.length → False) →
      ∃ v' w' xs', (Builtin.append_ #[t, tx] ty #[v, x]).run P w = .ok v' w' ∧ OwnV B w' e v' (n + m) xs' ∧ xs'.take (n + m) = xs.take n ++ news ∧ w.grownBy w' v.ownBlock ∧ (∀ Q : Value → Prop, Q z → (∀ u ∈ xs, Q u) → (∀ u ∈ news, Q u) → ∀ u ∈ xs', Q u) ∧ (n + m ≤ xs.length → xs'.length = xs.length) := by
    intro base old hv ho hold htl hno
    have hge := grownCap_ge w (n + m) old e
    have hle := grownCap_le_maxLen w (n + m) old e h63
    have hr' := run_append_grow_src (P := P) w t tx ty e i z T.ht hi hz0 base n old (xs.take n) hold x m news hs' ho (by simp only [maxLen] at h63; omega) (growslice_fits ho (by rw [hz2]; exact hb))
    rw [zeros_eq1 z T.hz] at hr'
    have e1 : ((xs.take n ++ news).toArray ++ (List.replicate (grownCap w (n + m) old e - (n + m)) z).toArray) = (xs.take n ++ news ++ List.replicate (grownCap w (n + m) old e - (n + m)) z).toArray := by simp
    rw [e1] at hr'
    have hl : (xs.take n ++ news ++ List.replicate (grownCap w (n + m) old e - (n + m)) z).length = grownCap w (n + m) old e := by
      simp only [List.length_append, htl, hnl, List.length_replicate]; omega
    rw [hv]
    refine ⟨_, _, xs.take n ++ news ++ List.replicate (grownCap w (n + m) old e - (n + m)) z, hr', .inr ⟨w.heap.size, by rw [hl], hB, heap_alloc_new w.drew _, by rw [hl]; exact hge, by rw [hl]; exact hle⟩, ?_, ⟨rfl, rfl, rfl, by simp, fun k hk _ => Below.heap_alloc w.drew _ k hk⟩, ?_, fun h => (hno h).elim⟩
    · rw [List.take_append_of_le_length (by simp only [List.length_append, htl, hnl]; omega)]
      exact List.take_of_length_le (by simp only [List.length_append, htl, hnl]; omega)
    · intro Q qz qx qn u hu
      simp only [List.mem_append, List.mem_replicate] at hu
      rcases hu with (hu | hu) | ⟨_, rfl⟩
      · exact qx u (List.mem_of_mem_take hu)
      · exact qn u hu
      · exact qz
  rcases hown with ⟨rfl, rfl, rfl⟩ | ⟨g, rfl, hBg, hblk, hn, hm⟩
  · by_cases hm0 : m = 0
    · subst hm0
      have hnews : news = [] := List.eq_nil_of_length_eq_zero hnl
      subst hnews
      refine ⟨.slice none 0 0, w, [], ?_, .inl ⟨rfl, rfl, rfl⟩, by simp, World.grownBy.refl _ _, (fun Q _ _ _ u hu => nomatch hu), fun _ => rfl⟩
      rcases hs'.kind with ⟨e', hk⟩ | hk <;> simp [Builtin.append_, run_underlying T.ht, run_underlying hk, sizeOf, typeInfo, hi, hs'.len, hs'.cells]
    · exact grow none 0 rfl (by omega) (run_firstCells_none w.drew i.size 0 0 0) (by simp) (fun h => by simp at h; omega)
  · by_cases hroom : n + m ≤ xs.length
    · have hc : ∀ j, j < news.length → (w.cell? ⟨g, 0 + n * i.size + j, none⟩).isSome = true := by
        intro j hj
        have h2 : 0 + n * i.size + j < xs.length := by rw [hz1]; omega
        rw [hblk.cell _ h2]; rfl
      have hf : ∀ j, j < news.length → w.frozen? ⟨g, 0 + n * i.size + j, none⟩ = false := fun j _ => hblk.frozen _
      have hr' := run_append_room_src (P := P) w t tx ty e i T.ht hi g 0 n xs.length x m news hs' hroom hc hf
      obtain ⟨hset, hgr⟩ : BlkV (w.setCells g (0 + n * i.size) news) g e (xs.take n ++ news ++ xs.drop (n + m)) ∧ w.grownBy (w.setCells g (0 + n * i.size) news) (some g) := by
        have := BlkV.cellsSet news n hblk (by omega)
        rw [hnl] at this
        rw [hz1, Nat.mul_one, Nat.zero_add]
        exact this
      have hlen : (xs.take n ++ news ++ xs.drop (n + m)).length = xs.length := by simp [hnl]; omega
      refine ⟨_, _, xs.take n ++ news ++ xs.drop (n + m), hr', .inr ⟨g, by rw [hlen], hBg, hset, by rw [hlen]; exact hroom, by rw [hlen]; exact hm⟩, ?_, ?_, ?_, fun _ => hlen⟩
      · rw [List.take_append_of_le_length (by simp [hnl]; omega)]
        exact List.take_of_length_le (by simp [hnl]; omega)
      · exact hgr
      · intro Q qz qx qn u hu
        simp only [List.mem_append] at hu
        rcases hu with (hu | hu) | hu
        · exact qx u (List.mem_of_mem_take hu)
        · exact qn u hu
        · exact qx u (List.mem_of_mem_drop hu)
    · refine grow (some ⟨g, 0, none⟩) xs.length rfl (by omega) ?_ (by simp; omega) (fun h => hroom h)
      have := run_firstCells_some (P := P) w.drew i.size n ⟨g, 0, none⟩ n xs.length (xs.take n) (by rw [hz1]; simp; omega) (fun j u hu => (hblk.below (Below.refl _ _).drew).rd n |>.cells j u hu)
      exact this
/-- An append, as a step of a walk. -/
theorem wpList_append_row {P : Program} {t e : TypeId} {z : Value} {bt : Nat} (T : ElemTy P t e z bt) (w : World) {ops : Array Oper} {rest : List Oper} {o : Oper} {a : Act} {Q : Exit → Act → World → Prop} (hgd : o.guard = none) (s x : Operand) (tx : TypeId)
    (ho : o.op = .call { callee := .builtin .append, args := #[s, x], argTypes := #[t, tx] }) (B : Nat) (v : Value) (n : Nat) (xs : List Value) (hs : a.eval s = v) (hown : OwnV B w e v n xs)
    (xv : Value) (m : Nat) (news : List Value) (hx : a.eval x = xv) (hsrc : Src P 1 tx xv m news w) (hb : (n + m) * bt ≤ 140737488355328) (h63 : n + m ≤ maxLen) (hB : B ≤ w.heap.size)
    (h : ∀ v' w' xs', Hid (OwnV B w' e v' (n + m) xs') → Hid (xs'.take (n + m) = xs.take n ++ news) → w.grownBy w' v.ownBlock → Hid ((∀ Q : Value → Prop, Q z → (∀ u ∈ xs, Q u) → (∀ u ∈ news, Q u) → ∀ u ∈ xs', Q u) ∧ (n + m ≤ xs.length → xs'.length = xs.length)) → wpList P ops Q rest (a.put o.dst v') w') : wpList P ops Q (o :: rest) a w := by
  refine wpList_plain hgd fun K hK => ?_
  obtain ⟨v', w', xs', hrun, h2, h3, h4, h5⟩ := run_append_row T w B tx o.type v n xs hown xv m news hsrc hb h63 hB
  unfold Oper.wp execOp
  simp only [ho, resolve, invoke, builtin, Sem.run_bind, Sem.run_pure, Result.andThen_ok, List.map_toArray, List.map_cons, List.map_nil, hs, hx, hrun]
  exact hK _ _ (h v' w' xs' h2 h3 h4 h5)
/-- 'make', of a list of one-cell values. -/
theorem wpList_make_row {P : Program} {t e : TypeId} {z : Value} {bt : Nat} (T : ElemTy P t e z bt) (w : World) {ops : Array Oper} {rest : List Oper} {o : Oper} {a : Act} {Q : Exit → Act → World → Prop} (hgd : o.guard = none) (s x : Operand)
    (ho : o.op = .makeSlice t s x) (l n : Nat) (L C : Int) (hs : a.eval s = .int .i64 L) (hx : a.eval x = .int .i64 C) (hL : L = (l : Int)) (hC : C = (n : Int)) (hln : l ≤ n) (hn : n * bt ≤ 281474976710656) (h63 : n ≤ 9223372036854775807)
    (h : wpList P ops Q rest (a.put o.dst (.slice (some ⟨w.heap.size, 0, none⟩) l n)) (w.alloc (.cells (List.replicate n z).toArray e))) : wpList P ops Q (o :: rest) a w := by
  refine wpList_plain hgd fun K hK => ?_
  obtain ⟨i, hi, hz0, hz1, hz2⟩ := info_parts T.hi
  have hrun := run_make (P := P) w t e i z T.ht hi hz0 .i64 .i64 (l : Int) (n : Int) (by omega) (by omega) (by rw [hz2]; have hp : (bt : Int) * (n : Int) = ((n * bt : Nat) : Int) := (by rw [Int.natCast_mul, Int.mul_comm]); omega) (by omega)
  have hmk : ∀ k : Nat, madeCells z.cells (k * 1) = (List.replicate k z).toArray := by
    intro k
    rw [T.hz]
    apply Array.ext
    · simp [madeCells]
    · intro j h1 h2
      simp [madeCells]
      have : j % 1 = 0 := by omega
      simp [this]
  rw [hz1] at hrun
  simp only [Int.toNat_natCast, hmk] at hrun
  subst hL
  subst hC
  unfold Oper.wp
  simp only [execOp, ho, hs, hx, Sem.run_bind, hrun, Result.andThen]
  exact hK _ _ h
theorem run_copy_V {P : Program} {t e : TypeId} {z : Value} {bt : Nat} (T : ElemTy P t e z bt) (w : World) (tx ty : TypeId) (g : Nat) (n c : Nat) (xs : List Value) (hblk : BlkV w g e xs) (ao : Option Addr) (m d : Nat) (news : List Value) (hr : RdV w ao news) (h1 : ∀ u ∈ news, u.oneCell' = true) (hl : news.length = m) (hmn : m ≤ n) (hn : n ≤ xs.length) :
    (Builtin.copy_ #[t, tx] ty #[.slice (some ⟨g, 0, none⟩) n c, .slice ao m d]).run P w = .ok (goInt m) (w.setRow g (news ++ xs.drop m).toArray) := by
  obtain ⟨i, hi, hz0, hz1, hz2⟩ := info_parts T.hi
  have hsz : (P.info? e).map (·.size) = some 1 := by rw [hi]; simp [hz1]
  by_cases hm : m = 0
  · subst hm
    have hnews : news = [] := List.eq_nil_of_length_eq_zero hl
    subst hnews
    have := run_copy_none (P := P) w t tx ty e (some ⟨g, 0, none⟩) ao n c 0 d T.ht hsz (by simp)
    rw [this]
    simp
    rw [setRow_self w g _ e (0, 0) (by simpa [BlkV] using hblk)]
  · cases ao with
    | none =>
      rcases hr with h | ⟨b, o, h, _⟩
      · subst h; simp at hl; omega
      · cases h
    | some x =>
      have := run_copy_row (P := P) w t tx ty e g 0 n c x m d _ e news T.ht hsz hblk (by simp [hl, Nat.min_eq_left hmn]) hr.cells (by simp [hl]; omega) h1
      rw [this]
      simp [hl]
theorem BlkV.row {w : World} {g : Nat} {t : TypeId} {xs : List Value} (h : BlkV w g t xs) (ys : List Value) : BlkV (w.setRow g ys.toArray) g t ys := setRow_heap w g _ _ t _ h
end Go.Proofs.Ytdeoembjfdbbkaa
/- Lists of texts: read, compared, lent, kept, written over, copied. -/
namespace Go.Proofs.Ytdeoembjfdbbkaa
open Go.ChangeShapes Go.WideShapes Go.ChangeAt Go.RowKit
set_option linter.unusedVariables false
set_option linter.unusedSimpArgs false


theorem tyT : ElemTy Try.prog 26 9 (.string ⟨#[]⟩) 16 := ⟨Try.underlying26, by kernel_rfl, rfl⟩
theorem tyN : ElemTy Try.prog 53 9 (.string ⟨#[]⟩) 16 := ⟨Try.underlying53, by kernel_rfl, rfl⟩
/-- Texts as values. -/
def tv (ss : List ByteArray) : List Value := ss.map Value.string
theorem tv_len (ss : List ByteArray) : (tv ss).length = ss.length := by simp [tv]
theorem tv_at (ss : List ByteArray) (i : Nat) (h : i < (tv ss).length) : (tv ss)[i] = .string (ss[i]'(by rw [← tv_len]; exact h)) := by simp [tv]
theorem tv_one (ss : List ByteArray) : ∀ u ∈ tv ss, u.oneCell' = true := by
  intro u hu
  simp only [tv, List.mem_map] at hu
  obtain ⟨s, _, rfl⟩ := hu
  rfl
theorem tv_append (a b : List ByteArray) : tv (a ++ b) = tv a ++ tv b := by simp [tv]
theorem tv_take (a : List ByteArray) (n : Nat) : (tv a).take n = tv (a.take n) := by simp [tv, List.map_take]
theorem tv_drop (a : List ByteArray) (n : Nat) : (tv a).drop n = tv (a.drop n) := by simp [tv, List.map_drop]
/-- Texts that can be read at an address. -/
def RdT (w : World) (a : Option Addr) (ss : List ByteArray) : Prop := RdV w a (tv ss)
theorem RdT.below {w w' : World} {a : Option Addr} {ss : List ByteArray} (h : RdT w a ss) (hb : Below w.heap.size w w') : RdT w' a ss := RdV.below h hb
theorem RdT.at {w : World} {a : Option Addr} {ss : List ByteArray} (h : RdT w a ss) (i : Nat) (hi : i < ss.length) : ∃ b o, a = some ⟨b, o, none⟩ ∧ b < w.heap.size ∧ w.cell? ⟨b, o + i, none⟩ = some (.string ss[i]) := by
  rcases h with h | ⟨b, o, rfl, h1, h2⟩
  · have := congrArg List.length h
    rw [tv_len] at this
    simp at this
    subst this
    simp at hi
  · refine ⟨b, o, rfl, h1, ?_⟩
    rw [h2 i (by rw [tv_len]; exact hi), tv_at]
set_option maxRecDepth 100000 in
set_option maxHeartbeats 1000000 in
theorem sameT_yes (a b : Option Addr) (n c d : Nat) (ss : List ByteArray) (w : World) (hr : RdT w a ss) (hr' : RdT w b ss) (hl : ss.length = n) (hn : n ≤ 9223372036854775807) :
    Calls Try.prog 46 #[.slice a n c, .slice b n d] w fun e w' => e = .returned (.bool true) ∧ Hid (Below w.heap.size w w') := by
  have HR : Hid (RdT w a ss ∧ RdT w b ss) := ⟨hr, hr'⟩
  have HL : Hid (ss.length = n) := hl
  clear hr hr' hl
  go_enter Try.func46, Try.ntmps46
  go_wp2_with fail
  go_loopw [5] (fun x wr => ∃ k : Nat, k ≤ n ∧ x = .int .i64 k ∧ Hid (Below w.heap.size w wr)) (fun x _ => n - (intOf x).toNat)
  case atStart => exact ⟨0, Nat.zero_le _, rfl, Below.refl _ _⟩
  case round =>
    obtain ⟨k, hk, rfl, HB⟩ := hrel
    by_cases hlt : k < n
    · have hlt' : (k : Int) < (n : Int) := by omega
      have hks : k < ss.length := by rw [HL.out]; exact hlt
      obtain ⟨b1, o1, rfl, l1, c1⟩ := (HR.out.1.below HB.out).at k hks
      obtain ⟨b2, o2, rfl, l2, c2⟩ := (HR.out.2.below HB.out).at k hks
      generalize ss[k] = s at *
      go_wp2_with fail
      go_quiet (fail)
      have HB2 : Hid (Below w.heap.size w (wr.drewN nq)) := HB.out.trans ⟨rfl, rfl, rfl, Nat.le_refl _, fun _ _ => rfl⟩
      clear c1 c2
      generalize wr.drewN nq = W2 at *
      go_wp2
      exact ⟨⟨k + 1, by omega, by go_num, HB2⟩, by simp [intOf]; omega⟩
    · have hge : (n : Int) ≤ (k : Int) := by omega
      go_wp2
      go_ret
      exact ⟨rfl, HB.out⟩
/-- The mark behind a list of texts that is lent. -/
def mk : ByteArray := ⟨#[108, 101, 110, 116]⟩
def lentT (ss : List ByteArray) (k : Nat) : List ByteArray := ss ++ List.replicate k mk ++ List.replicate (3 - k) ⟨#[]⟩
theorem lentT_len (ss : List ByteArray) (k : Nat) (h : k ≤ 3) : (lentT ss k).length = ss.length + 3 := by simp [lentT]; omega
theorem lentT_zero (ss : List ByteArray) : lentT ss 0 = ss ++ List.replicate 3 ⟨#[]⟩ := by simp [lentT]
theorem lentT_step (ss : List ByteArray) (k : Nat) (h : k < 3) : (tv (lentT ss k)).set (ss.length + k) (.string mk) = tv (lentT ss (k + 1)) := by
  have : k = 0 ∨ k = 1 ∨ k = 2 := by omega
  rcases this with rfl | rfl | rfl <;> simp [lentT, tv, List.replicate]
theorem lentT_take (ss : List ByteArray) (k : Nat) : (lentT ss k).take ss.length = ss := by simp [lentT]
/-- What writing over a text makes of it. -/
def bang (s : ByteArray) : ByteArray := s ++ ⟨#[33]⟩
def overT (ss : List ByteArray) (k : Nat) : List ByteArray := (ss.take k).map bang ++ ss.drop k
theorem overT_len (ss : List ByteArray) (k : Nat) : (overT ss k).length = ss.length := by simp [overT]; omega
theorem overT_at (ss : List ByteArray) (k : Nat) (h : k < ss.length) : (tv (overT ss k))[k]? = some (.string ss[k]) := by
  have e : ((ss.take k).map bang).length = k := by simp; omega
  simp [tv, overT]
  rw [List.getElem?_append_right (by simp; omega)]
  simp [show min k ss.length = k by omega]
theorem overT_step (ss : List ByteArray) (k : Nat) (h : k < ss.length) : (tv (overT ss k)).set k (.string (bang ss[k])) = tv (overT ss (k + 1)) := by
  have e : ((ss.take k).map bang).length = k := by simp; omega
  unfold overT
  rw [List.take_succ_eq_append_getElem h, List.map_append, List.drop_eq_getElem_cons h]
  simp only [tv_append]
  rw [List.set_append_right _ _ (by rw [tv_len, e]; exact Nat.le_refl _), tv_len, e, Nat.sub_self, List.append_assoc]
  rfl
set_option maxRecDepth 100000 in
set_option maxHeartbeats 1000000 in
theorem overT_blk (g n c : Nat) (ss : List ByteArray) (w : World) (hb : BlkV w g 9 (tv ss)) (hl : ss.length = c) (hn : n ≤ c) (hm : c ≤ maxLen) (hz : ∀ s ∈ ss, s.size ≤ 1000000000000) :
    Calls Try.prog 51 #[.slice (some ⟨g, 0, none⟩) n c] w fun e w' => e = .returned (.tuple #[]) ∧ Hid (BlkV w' g 9 (tv (ss.map bang)) ∧ w.grownBy w' (some g) ∧ w'.heap.size = w.heap.size) := by
  have HB : Hid (BlkV w g 9 (tv ss)) := hb
  have HL : Hid (ss.length = c) := hl
  clear hb hl
  unfold maxLen at hm
  go_enter Try.func51, Try.ntmps51
  go_wp2
  go_loopw [3] (fun i wr => ∃ k : Nat, k ≤ c ∧ i = .int .i64 k ∧ Hid (BlkV wr g 9 (tv (overT ss k)) ∧ w.grownBy wr (some g) ∧ wr.heap.size = w.heap.size)) (fun i _ => c - (intOf i).toNat)
  case atStart => exact ⟨0, by omega, rfl, by simpa [overT] using HB.out, World.grownBy.refl _ _, rfl⟩
  case round =>
    obtain ⟨k, hk, rfl, HW⟩ := hrel
    by_cases hlt : k < c
    · have hks : k < ss.length := by rw [HL.out]; exact hlt
      have hc := HW.out.1.cell k (by rw [tv_len, overT_len]; exact hks)
      have hat := overT_at ss k hks
      rw [List.getElem?_eq_getElem (by rw [tv_len, overT_len]; exact hks)] at hat
      rw [Option.some.inj hat] at hc
      have hf := HW.out.1.frozen k
      have h1 : (k : Int) < (c : Int) := by omega
      have HS : Hid (BlkV (wr.setCell ⟨g, k, none⟩ (.string (bang ss[k]))) g 9 (tv (overT ss (k + 1)))) := by
        have := HW.out.1.stored k (.string (bang ss[k]))
        rw [overT_step ss k hks] at this
        exact this
      clear hat
      have hsk : ss[k].size ≤ 1000000000000 := hz _ (List.getElem_mem hks)
      generalize ss[k] = s at *
      go_wp2
      refine ⟨⟨k + 1, by omega, by go_num, HS.out, ?_, ?_⟩, by simp [intOf]; omega⟩
      · obtain ⟨_, hG, hz⟩ := HW.out
        exact ⟨hG.os, hG.tape, hG.output, by rw [← hz]; simp [World.setCell], fun j hj hne => (Below.heap_setCell _ _ _ j (fun e => hne (by rw [e]))).trans (hG.block j hj hne)⟩
      · rw [← HW.out.2.2]; simp [World.setCell]
    · obtain rfl : k = c := by omega
      go_wp2
      go_end0
      have h := HW.out
      have e : overT ss k = ss.map bang := by
        unfold overT
        rw [List.take_of_length_le (by rw [HL.out]; exact Nat.le_refl _), List.drop_eq_nil_of_le (by rw [HL.out]; exact Nat.le_refl _), List.append_nil]
      rw [e] at h
      exact ⟨rfl, h⟩
end Go.Proofs.Ytdeoembjfdbbkaa
/- Lists of texts of one's own: what append makes of them; copies; the names' helpers. -/
namespace Go.Proofs.Ytdeoembjfdbbkaa
open Go.ChangeShapes Go.WideShapes Go.ChangeAt Go.RowKit
set_option linter.unusedVariables false
set_option linter.unusedSimpArgs false


/-- A text of at most M bytes, as a value. -/
def QS (M : Nat) (u : Value) : Prop := ∃ s : ByteArray, u = .string s ∧ s.size ≤ M
theorem tv_of {M : Nat} : ∀ xs : List Value, (∀ u ∈ xs, QS M u) → ∃ ys, xs = tv ys ∧ ∀ s ∈ ys, s.size ≤ M
  | [], _ => ⟨[], rfl, by simp⟩
  | x :: xs, h => by
    obtain ⟨ys, e1, e2⟩ := tv_of xs (fun u hu => h u (by simp [hu]))
    obtain ⟨s, rfl, hs⟩ := h x (by simp)
    refine ⟨s :: ys, by rw [e1]; rfl, fun q hq => ?_⟩
    rcases List.mem_cons.1 hq with rfl | hq
    · exact hs
    · exact e2 q hq
theorem qs_tv {M : Nat} {ss : List ByteArray} (h : ∀ s ∈ ss, s.size ≤ M) : ∀ u ∈ tv ss, QS M u := by
  intro u hu
  simp only [tv, List.mem_map] at hu
  obtain ⟨s, hs, rfl⟩ := hu
  exact ⟨s, rfl, h s hs⟩
theorem tv_inj : ∀ {a b : List ByteArray}, tv a = tv b → a = b
  | [], [], _ => rfl
  | [], _ :: _, h => by simp [tv] at h
  | _ :: _, [], h => by simp [tv] at h
  | x :: a, y :: b, h => by
    simp only [tv, List.map_cons, List.cons.injEq, Value.string.injEq] at h
    rw [h.1, tv_inj (a := a) (b := b) h.2]
/-- A list of texts in a block of its own. -/
def OwnT (B : Nat) (w : World) (v : Value) (n : Nat) (ss : List ByteArray) (M : Nat) : Prop := OwnV B w 9 v n (tv ss) ∧ ∀ s ∈ ss, s.size ≤ M
theorem OwnT.below {B : Nat} {w w' : World} {v : Value} {n : Nat} {ss : List ByteArray} {M : Nat} (h : OwnT B w v n ss M) (hb : Below w.heap.size w w') : OwnT B w' v n ss M := ⟨h.1.below hb, h.2⟩
theorem OwnT.mono {B B' : Nat} {w : World} {v : Value} {n : Nat} {ss : List ByteArray} {M : Nat} (h : OwnT B w v n ss M) (hB : B' ≤ B) : OwnT B' w v n ss M := ⟨h.1.mono hB, h.2⟩
theorem OwnT.nil (B : Nat) (w : World) (M : Nat) : OwnT B w (.slice none 0 0) 0 [] M := ⟨OwnV.nil B w 9, by simp⟩
theorem OwnT.rd {B : Nat} {w : World} {ao : Option Addr} {n c : Nat} {ss : List ByteArray} {M : Nat} (h : OwnT B w (.slice ao n c) n ss M) (m : Nat) : RdT w ao (ss.take m) := by
  have := h.1.rd m
  rw [tv_take] at this
  exact this
theorem OwnT.shape {B : Nat} {w : World} {v : Value} {n : Nat} {ss : List ByteArray} {M : Nat} (h : OwnT B w v n ss M) : ∃ ao, v = .slice ao n ss.length ∧ (ao = none → ss.length = 0) := by
  obtain ⟨ao, h1, h2⟩ := h.1.shape
  rw [tv_len] at h1 h2
  exact ⟨ao, h1, h2⟩
theorem OwnT.le {B : Nat} {w : World} {v : Value} {n : Nat} {ss : List ByteArray} {M : Nat} (h : OwnT B w v n ss M) : n ≤ ss.length ∧ ss.length ≤ maxLen := by
  have := h.1.le
  rw [tv_len] at this
  exact this
theorem wpList_append_T {t : TypeId} (T : ElemTy Try.prog t 9 (.string ⟨#[]⟩) 16) (w : World) {ops : Array Oper} {rest : List Oper} {o : Oper} {a : Act} {Q : Exit → Act → World → Prop} (hgd : o.guard = none) (s x : Operand) (tx e' : TypeId) (hk : Try.prog.underlying tx = some (.slice e'))
    (ho : o.op = .call { callee := .builtin .append, args := #[s, x], argTypes := #[t, tx] }) (B : Nat) (v : Value) (n : Nat) (ss : List ByteArray) (M : Nat) (hs : a.eval s = v) (hown : OwnT B w v n ss M)
    (ao : Option Addr) (m c : Nat) (ns : List ByteArray) (hx : a.eval x = .slice ao m c) (hr : RdT w ao ns) (hl : ns.length = m) (hM : ∀ s ∈ ns, s.size ≤ M) (hb : n + m ≤ 8796093022000) (hB : B ≤ w.heap.size)
    (h : ∀ v' w' ys, Hid (OwnT B w' v' (n + m) ys M) → Hid (ys.take (n + m) = ss.take n ++ ns) → w.grownBy w' v.ownBlock → wpList Try.prog ops Q rest (a.put o.dst v') w') : wpList Try.prog ops Q (o :: rest) a w := by
  refine wpList_append_row T w hgd s x tx ho B v n (tv ss) hs hown.1 (.slice ao m c) m (tv ns) hx (src_of hk hr (by rw [tv_len]; exact hl) (tv_one ns)) (by omega) (by simp only [maxLen]; omega) hB ?_
  intro v' w' xs' h1 h2 h3 h4
  obtain ⟨ys, rfl, hys⟩ := tv_of (M := M) xs' (h4.out.1 (QS M) ⟨⟨#[]⟩, rfl, Nat.zero_le _⟩ (qs_tv hown.2) (qs_tv hM))
  refine h v' w' ys ⟨h1.out, hys⟩ ?_ h3
  have h2' := h2.out
  rw [tv_take, tv_take, ← tv_append] at h2'
  exact tv_inj h2'
theorem one_rdT (w : World) (s : ByteArray) : RdT (w.alloc (.cells #[.string s] 9)) (some ⟨w.heap.size, 0, none⟩) [s] := by
  refine .inr ⟨w.heap.size, 0, rfl, by simp, fun i hi => ?_⟩
  have : i = 0 := by simp [tv] at hi; omega
  subst this
  simp [go_sem, tv]
theorem emptyT (w : World) (M : Nat) : OwnT w.heap.size (w.alloc (.cells #[] 9)) (.slice (some ⟨w.heap.size, 0, none⟩) 0 0) 0 [] M :=
  ⟨.inr ⟨w.heap.size, rfl, Nat.le_refl _, heap_alloc_new _ _, Nat.le_refl _, Nat.zero_le _⟩, by simp⟩
def CopyPost (ss : List ByteArray) (M : Nat) (w : World) (e : Ending) (w' : World) : Prop :=
  ∃ v ys, e = .returned v ∧ Hid (OwnT w.heap.size w' v ss.length ys M ∧ ys.take ss.length = ss ∧ Below w.heap.size w w')
set_option maxRecDepth 100000 in
set_option maxHeartbeats 800000 in
theorem copyT_any (a : Option Addr) (cap len : Nat) (ss : List ByteArray) (M : Nat) (w : World) (hr : RdT w a ss) (hl : ss.length = len) (hM : ∀ s ∈ ss, s.size ≤ M) (hm : len ≤ 8796093022000) :
    Calls Try.prog 32 #[.slice a len cap] w (CopyPost ss M w) := by
  have HR : Hid (RdT w a ss ∧ ∀ s ∈ ss, s.size ≤ M) := ⟨hr, hM⟩
  have HL : Hid (ss.length = len) := hl
  clear hr hl hM
  have hb1 : Below w.heap.size w (w.alloc (.cells #[] 9)) := (Below.refl _ _).alloc (Nat.le_refl _) _
  go_enter Try.func32, Try.ntmps32
  go_wp2_with (at_builtin; refine wpList_append_T tyT _ rfl _ _ 26 9 Try.underlying26 rfl w.heap.size _ 0 [] M rfl (emptyT w M) a len cap ss rfl (HR.out.1.below hb1) HL.out HR.out.2 (by omega) (by simp) ?_; intro v' w' ys hO hT hG)
  go_ret
  refine ⟨v', ys, rfl, ?_, ?_, ?_⟩
  · have h := hO.out
    rw [Nat.zero_add, ← HL.out] at h
    exact h
  · have h := hT.out
    rw [Nat.zero_add, ← HL.out] at h
    simpa using h
  · refine hb1.grown hG (by simp) ?_
    intro k hk
    have e : w.heap.size = k := Option.some.inj hk
    omega
set_option maxRecDepth 100000 in
theorem sameN_yes (a b : Option Addr) (n c d : Nat) (ss : List ByteArray) (w : World) (hr : RdT w a ss) (hr' : RdT w b ss) (hl : ss.length = n) (hn : n ≤ 9223372036854775807) :
    Calls Try.prog 47 #[.slice a n c, .slice b n d] w fun e w' => e = .returned (.bool true) ∧ Hid (Below w.heap.size w w') := by
  have HX : Hid (Calls Try.prog 46 #[.slice a n c, .slice b n d] w fun e w' => e = .returned (.bool true) ∧ Hid (Below w.heap.size w w')) := sameT_yes a b n c d ss w hr hr' hl hn
  clear hr hr' hl
  go_enter Try.func47, Try.ntmps47
  go_wp2_with fail
  refine HX.out.mono ?_
  rintro e w1 ⟨rfl, H1⟩
  go_wp2
  go_ret
  exact ⟨rfl, H1⟩
set_option maxRecDepth 100000 in
theorem copyN_any (a : Option Addr) (cap len : Nat) (ss : List ByteArray) (M : Nat) (w : World) (hr : RdT w a ss) (hl : ss.length = len) (hM : ∀ s ∈ ss, s.size ≤ M) (hm : len ≤ 8796093022000) :
    Calls Try.prog 34 #[.slice a len cap] w (CopyPost ss M w) := by
  have HX : Hid (Calls Try.prog 32 #[.slice a len cap] w (CopyPost ss M w)) := copyT_any a cap len ss M w hr hl hM hm
  clear hr hl hM
  go_enter Try.func34, Try.ntmps34
  go_wp2_with fail
  refine HX.out.mono ?_
  rintro e w1 ⟨v, ys, rfl, H1⟩
  go_wp2
  go_ret
  exact ⟨v, ys, rfl, H1⟩
end Go.Proofs.Ytdeoembjfdbbkaa
/- Bytes that can be read in memory, as lists of numbers; numbers out of bytes. No text of the program is used here. -/
namespace Go.Proofs.Ytdeoembjfdbbkaa
open Go.ChangeShapes Go.WideShapes Go.ChangeAt Go.RowKit


/-- From the address on the numbers lie there, each a byte. -/
def Rd (w : World) (a : Option Addr) (zs : List Int) : Prop :=
  (zs = [] ∨ ∃ b o, a = some ⟨b, o, none⟩ ∧ b < w.heap.size ∧ ∀ i, i < zs.length → w.cell? ⟨b, o + i, none⟩ = some (.int .u8 (zs.getD i 0))) ∧ ∀ z ∈ zs, 0 ≤ z ∧ z ≤ 255
theorem Rd.bd {w : World} {a : Option Addr} {zs : List Int} (h : Rd w a zs) (i : Nat) : 0 ≤ zs.getD i 0 ∧ zs.getD i 0 ≤ 255 := by
  by_cases hi : i < zs.length
  · have := h.2 (zs.getD i 0) (by rw [List.getD_eq_getElem?_getD, List.getElem?_eq_getElem hi]; simp)
    exact this
  · rw [List.getD_eq_getElem?_getD, List.getElem?_eq_none (by omega)]; simp
theorem Rd.of_blocks {w w' : World} {a : Option Addr} {zs : List Int} (h : Rd w a zs) (hs : w.heap.size ≤ w'.heap.size) (hb : ∀ b o, a = some ⟨b, o, none⟩ → w'.heap[b]? = w.heap[b]?) : Rd w' a zs := by
  refine ⟨?_, h.2⟩
  rcases h.1 with h1 | ⟨b, o, rfl, h1, h2⟩
  · exact .inl h1
  · refine .inr ⟨b, o, rfl, by omega, fun i hi => ?_⟩
    rw [← h2 i hi]
    exact World.cell?_of_block (w := w) (hb b o rfl)
theorem Rd.below {w w' : World} {a : Option Addr} {zs : List Int} (h : Rd w a zs) (hb : Below w.heap.size w w') : Rd w' a zs := by
  refine ⟨?_, h.2⟩
  rcases h.1 with h1 | ⟨b, o, rfl, h1, h2⟩
  · exact .inl h1
  · refine .inr ⟨b, o, rfl, Nat.lt_of_lt_of_le h1 hb.size, fun i hi => ?_⟩
    rw [← h2 i hi]
    exact hb.cell (p := ⟨b, o + i, none⟩) h1
theorem Rd.cut {w : World} {a : Option Addr} {zs : List Int} (h : Rd w a zs) (at_ n : Nat) (hn : at_ + n ≤ zs.length) {a' : Option Addr}
    (ha : 0 < n → ∀ b o, a = some ⟨b, o, none⟩ → a' = some ⟨b, o + at_, none⟩) : Rd w a' ((zs.drop at_).take n) := by
  refine ⟨?_, fun z hz => h.2 z (List.mem_of_mem_drop (List.mem_of_mem_take hz))⟩
  by_cases h0 : n = 0
  · left; subst h0; simp
  · rcases h.1 with h1 | ⟨b, o, rfl, h1, h2⟩
    · subst h1; simp at hn; omega
    · refine .inr ⟨b, o + at_, ha (by omega) b o rfl, h1, fun i hi => ?_⟩
      have hi' : i < n := by simp at hi; omega
      have := h2 (at_ + i) (by omega)
      rw [Nat.add_assoc, this]
      congr 2
      simp [List.getD_eq_getElem?_getD, hi', List.getElem?_drop]
/-- The number that bytes are, the first the greatest. -/
def val (zs : List Int) : Int := zs.foldl (fun n c => n * 256 + c) 0
theorem val_snoc (zs : List Int) (c : Int) : val (zs ++ [c]) = val zs * 256 + c := by
  simp [val, List.foldl_append]
theorem val_bd (zs : List Int) (h : ∀ z ∈ zs, 0 ≤ z ∧ z ≤ 255) : 0 ≤ val zs ∧ val zs < 256 ^ zs.length := by
  have : ∀ (l : List Int) (n : Int) (k : Nat), (∀ z ∈ l, 0 ≤ z ∧ z ≤ 255) → 0 ≤ n → n < 256 ^ k → 0 ≤ l.foldl (fun n c => n * 256 + c) n ∧ l.foldl (fun n c => n * 256 + c) n < 256 ^ (k + l.length) := by
    intro l; induction l with
    | nil => intro n k _ h1 h2; exact ⟨h1, h2⟩
    | cons c l ih =>
      intro n k hl h1 h2
      have hc := hl c (by simp)
      have := ih (n * 256 + c) (k + 1) (fun z hz => hl z (by simp [hz])) (by omega) (by rw [Int.pow_succ]; omega)
      simpa [Nat.add_assoc, Nat.add_comm 1] using this
  have t := this zs 0 0 h (by omega) (by simp)
  rw [Nat.zero_add] at t
  exact t
theorem take_snoc (zs : List Int) (k : Nat) (h : k < zs.length) : zs.take (k + 1) = zs.take k ++ [zs.getD k 0] := by
  rw [List.take_succ_eq_append_getElem h]; simp [List.getD_eq_getElem?_getD, List.getElem?_eq_getElem h]
theorem val_small (zs : List Int) (h : ∀ z ∈ zs, 0 ≤ z ∧ z ≤ 255) (k : Nat) (hk : k ≤ 3) : 0 ≤ val (zs.take k) ∧ val (zs.take k) < 16777216 := by
  have hb := val_bd (zs.take k) (fun z hz => h z (List.mem_of_mem_take hz))
  have hp : (256 : Int) ^ (zs.take k).length ≤ 256 ^ 3 := by
    have hl : (zs.take k).length ≤ 3 := by simp; omega
    generalize (zs.take k).length = m at hl
    have : m = 0 ∨ m = 1 ∨ m = 2 ∨ m = 3 := by omega
    rcases this with rfl | rfl | rfl | rfl <;> decide
  have h3 : (256 : Int) ^ 3 = 16777216 := by decide
  omega
theorem val_small4 (zs : List Int) (h : ∀ z ∈ zs, 0 ≤ z ∧ z ≤ 255) (hk : zs.length ≤ 4) : 0 ≤ val zs ∧ val zs < 4294967296 := by
  have hb := val_bd zs h
  have hp : (256 : Int) ^ zs.length ≤ 256 ^ 4 := by
    generalize zs.length = m at hk
    have : m = 0 ∨ m = 1 ∨ m = 2 ∨ m = 3 ∨ m = 4 := by omega
    rcases this with rfl | rfl | rfl | rfl | rfl <;> decide
  have h3 : (256 : Int) ^ 4 = 4294967296 := by decide
  omega
theorem u32_join (v c : Int) (h1 : 0 ≤ v) (h2 : v < 16777216) (h3 : 0 ≤ c) (h4 : c ≤ 255) :
    bits .or .u32 (v * 256) (c % 4294967296) = v * 256 + c := by
  have e2 : c % 4294967296 = c := Int.emod_eq_of_lt (by omega) (by omega)
  rw [e2, u32_or _ _ (by omega) (by omega) (by omega) (by omega)]
  have := nat_join 8 (v * 256).toNat c.toNat (by omega) (by omega)
  rw [this]; omega
theorem u64_step (v c : Int) (h1 : 0 ≤ v) (h2 : v < 16777216) (h3 : 0 ≤ c) (h4 : c ≤ 255) :
    IntKind.u64.wrap (v * 256 + IntKind.u64.wrap c) = v * 256 + c := by
  rw [IntKind.wrap_u64, IntKind.wrap_u64]; omega
/-- A block that holds just these bytes, and may be written. -/
def Blk (w : World) (g : Nat) (zs : List Int) : Prop :=
  w.heap[g]? = some (.cells (zs.map (Value.int .u8)).toArray 5 (0, 0)) ∧ ∀ z ∈ zs, 0 ≤ z ∧ z ≤ 255
theorem Blk.lt {w : World} {g : Nat} {zs : List Int} (h : Blk w g zs) : g < w.heap.size := by
  have := h.1
  by_cases hg : g < w.heap.size
  · exact hg
  · rw [Array.getElem?_eq_none (by omega)] at this; cases this
theorem Blk.same {w w' : World} {g : Nat} {zs : List Int} (h : Blk w g zs) (hb : w'.heap[g]? = w.heap[g]?) : Blk w' g zs := ⟨hb.trans h.1, h.2⟩
theorem Blk.below {w w' : World} {g : Nat} {zs : List Int} (h : Blk w g zs) (hb : Below w.heap.size w w') : Blk w' g zs := h.same (hb.block g h.lt)
theorem Blk.cell {w : World} {g : Nat} {zs : List Int} (h : Blk w g zs) (i : Nat) (hi : i < zs.length) : w.cell? ⟨g, i, none⟩ = some (.int .u8 (zs.getD i 0)) := by
  simp [World.cell?, h.1, hi]
theorem Blk.frozen {w : World} {g : Nat} {zs : List Int} (h : Blk w g zs) (i : Nat) : w.frozen? ⟨g, i, none⟩ = false := by
  simp [World.frozen?, h.1]
theorem Blk.rd {w : World} {g : Nat} {zs : List Int} (h : Blk w g zs) (n : Nat) : Rd w (some ⟨g, 0, none⟩) (zs.take n) := by
  refine ⟨.inr ⟨g, 0, rfl, h.lt, fun i hi => ?_⟩, fun z hz => h.2 z (List.mem_of_mem_take hz)⟩
  rw [Nat.zero_add, h.cell i (by simp at hi; omega)]
  have : i < n := by simp at hi; omega
  simp [List.getD_eq_getElem?_getD, this]
theorem Rd.drew {w : World} {a : Option Addr} {zs : List Int} (h : Rd w a zs) : Rd w.drew a zs := h.below (Below.refl _ _).drew
theorem Blk.drew {w : World} {g : Nat} {zs : List Int} (h : Blk w g zs) : Blk w.drew g zs := h
end Go.Proofs.Ytdeoembjfdbbkaa
/- Lists of bytes that the program itself has made: making, appending, copying, writing, as steps of a walk. -/
namespace Go.Proofs.Ytdeoembjfdbbkaa
open Go.ChangeShapes Go.WideShapes Go.ChangeAt Go.RowKit
set_option linter.unusedVariables false
set_option linter.unusedSimpArgs false


theorem Try.info5 : (Try.prog.info? 5).map (fun i => (i.zero, i.size, i.bytes)) = some (some (.int .u8 0), 1, 1) := by kernel_rfl
/-- A list of bytes in a block of its own, from the block B on: n of them, the block's whole cells are zs. -/
def Own (B : Nat) (w : World) (v : Value) (n : Nat) (zs : List Int) : Prop :=
  (v = .slice none 0 0 ∧ n = 0 ∧ zs = []) ∨
  ∃ g, v = .slice (some ⟨g, 0, none⟩) n zs.length ∧ B ≤ g ∧ Blk w g zs ∧ n ≤ zs.length ∧ zs.length ≤ maxLen
theorem zeros_eq (k : Nat) : Builtin.zeroCells (Value.int .u8 0).cells k = ((List.replicate k (0 : Int)).map (Value.int .u8)).toArray := by
  apply Array.ext
  · simp [Builtin.zeroCells, Value.cells]
  · intro i h1 h2
    simp [Builtin.zeroCells, Value.cells]
    have : i % 1 = 0 := by omega
    simp [this]
theorem made_eq (k : Nat) : madeCells (Value.int .u8 0).cells (k * 1) = ((List.replicate k (0 : Int)).map (Value.int .u8)).toArray := by
  apply Array.ext
  · simp [madeCells, Value.cells]
  · intro i h1 h2
    simp [madeCells, Value.cells]
    have : i % 1 = 0 := by omega
    simp [this]
theorem rd_cells {w : World} {x : Addr} {zs : List Int} (h : Rd w (some x) zs) : ∀ j u, (zs.map (Value.int .u8))[j]? = some u → w.cell? (x.add j) = some u := by
  intro j u hu
  have hj : j < zs.length := by simpa using (List.getElem?_eq_some_iff.1 hu).1
  rcases h.1 with h1 | ⟨b, o, e, _, h2⟩
  · subst h1; simp at hj
  · cases e
    rw [Addr.add_lit, h2 j hj, ← hu]
    simp [hj]
theorem run_append_blk (w : World) (B : Nat) (ty : TypeId) (v : Value) (n : Nat) (zs : List Int) (hown : Own B w v n zs)
    (ao : Option Addr) (m c : Nat) (news : List Int) (hr : Rd w ao news) (hl : news.length = m) (hc : ao = none → c = 0) (hb : n + m ≤ 140737488355328) (hB : B ≤ w.heap.size) :
    ∃ v' w' zs', (Builtin.append_ #[27, 27] ty #[v, .slice ao m c]).run Try.prog w = .ok v' w' ∧ Own B w' v' (n + m) zs' ∧ zs'.take (n + m) = zs.take n ++ news ∧ w.grownBy w' v.ownBlock := by
  obtain ⟨i, hi, hz0, hz1, hz2⟩ := info_parts Try.info5
  cases ao with
  | none =>
    have hnews : news = [] := by
      rcases hr.1 with h1 | ⟨b, o, h, _⟩
      · exact h1
      · cases h
    subst hnews; subst hl
    rw [hc rfl]
    refine ⟨v, w, zs, ?_, hown, by simp, World.grownBy.refl _ _⟩
    rcases hown with ⟨rfl, rfl, rfl⟩ | ⟨g, rfl, hBg, hblk, hn, hm⟩
    · simp [Builtin.append_, run_underlying Try.underlying27, sizeOf, typeInfo, hi, Builtin.lenOf, Builtin.firstCells]
    · simp [Builtin.append_, run_underlying Try.underlying27, sizeOf, typeInfo, hi, Builtin.lenOf, Builtin.firstCells, hn, storeCells]
  | some a =>
    have hcs := rd_cells hr
    have hml : n + m ≤ maxLen := by simp only [maxLen]; omega
    have hlm : (news.map (Value.int .u8)).length = m * i.size := by rw [hz1]; simp [hl]
    have grown : ∀ (old : Nat), old < n + m → ∀ (row : Option Nat), (n = 0 ∨ n ≤ zs.length) →
        ∃ zs' : List Int, (.cells (((zs.take n).map (Value.int .u8)).toArray ++ (news.map (Value.int .u8)).toArray ++ Builtin.zeroCells (Value.int .u8 0).cells (grownCap w (n + m) old 5 - (n + m))) 5 : Obj) = .cells (zs'.map (Value.int .u8)).toArray 5 (0, 0) ∧
        zs'.length = grownCap w (n + m) old 5 ∧ zs'.take (n + m) = zs.take n ++ news ∧ (∀ z ∈ zs', 0 ≤ z ∧ z ≤ 255) := by
      intro old ho row hn
      have hge := grownCap_ge w (n + m) old 5
      have hzb : ∀ z ∈ zs, 0 ≤ z ∧ z ≤ 255 := by
        rcases hown with ⟨_, _, rfl⟩ | ⟨g, _, _, hblk, _⟩
        · intro z hz; cases hz
        · exact hblk.2
      have htl : (zs.take n).length = n := by
        rcases hn with rfl | hn
        · simp
        · simp; omega
      refine ⟨zs.take n ++ news ++ List.replicate (grownCap w (n + m) old 5 - (n + m)) 0, ?_, ?_, ?_, ?_⟩
      · rw [zeros_eq]; simp
      · simp only [List.length_append, htl, hl, List.length_replicate]; omega
      · rw [List.take_append_of_le_length (by simp only [List.length_append, htl, hl]; omega)]
        exact List.take_of_length_le (by simp only [List.length_append, htl, hl]; omega)
      · intro z hz
        simp only [List.mem_append, List.mem_replicate] at hz
        rcases hz with (hz | hz) | ⟨_, rfl⟩
        · exact hzb z (List.mem_of_mem_take hz)
        · exact hr.2 z hz
        · omega
    have fresh : ∀ (old : Nat), old < n + m → ∀ zs' : List Int, zs'.length = grownCap w (n + m) old 5 → (∀ z ∈ zs', 0 ≤ z ∧ z ≤ 255) →
        Own B (w.drew.alloc (.cells (zs'.map (Value.int .u8)).toArray 5 (0, 0))) (.slice (some ⟨w.heap.size, 0, none⟩) (n + m) (grownCap w (n + m) old 5)) (n + m) zs' := by
      intro old ho zs' hzl hzb
      refine .inr ⟨w.heap.size, by rw [hzl], hB, ⟨heap_alloc_new w.drew _, hzb⟩, ?_, ?_⟩
      · rw [hzl]; exact grownCap_ge w (n + m) old 5
      · rw [hzl]; exact grownCap_le_maxLen w (n + m) old 5 hml
    rcases hown with ⟨rfl, rfl, rfl⟩ | ⟨g, rfl, hBg, hblk, hn, hm⟩
    · by_cases hm0 : m = 0
      · subst hm0
        have hnews : news = [] := List.eq_nil_of_length_eq_zero hl
        subst hnews
        refine ⟨.slice none 0 0, w, [], ?_, .inl ⟨rfl, rfl, rfl⟩, by simp, World.grownBy.refl _ _⟩
        simp [Builtin.append_, run_underlying Try.underlying27, sizeOf, typeInfo, hi, Builtin.lenOf, Builtin.firstCells, loadCells, loadCellsFrom]
      · have hr' := run_append_nil (P := Try.prog) w 27 ty 5 i _ Try.underlying27 hi hz0 a m c (news.map (Value.int .u8)) hlm hcs (by omega) (by omega) (by rw [hz2]; omega)
        obtain ⟨zs', e1, e2, e3, e4⟩ := grown 0 (by omega) none (.inl rfl)
        have hf := fresh 0 (by omega) zs' e2 e4
        simp only [Nat.zero_add, List.take_nil, List.map_nil, List.nil_append, Array.empty_append, List.take_zero] at e1 e2 e3 hf ⊢
        rw [e1] at hr'
        exact ⟨_, _, zs', hr', hf, e3, ⟨rfl, rfl, rfl, by simp, fun k hk _ => Below.heap_alloc w.drew _ k hk⟩⟩
    · by_cases hroom : n + m ≤ zs.length
      · have hr' := run_append_room (P := Try.prog) w 27 ty 5 i Try.underlying27 hi g n zs.length _ hblk.1 a m c (news.map (Value.int .u8)) hlm hcs (ints_oneCell _ _) hroom (by rw [hz1]; simp [hl]; omega)
        have e : (((zs.map (Value.int .u8)).toArray.toList.take (n * i.size)) ++ news.map (Value.int .u8) ++ (zs.map (Value.int .u8)).toArray.toList.drop (n * i.size + (news.map (Value.int .u8)).length)).toArray = ((zs.take n ++ news ++ zs.drop (n + m)).map (Value.int .u8)).toArray := by
          rw [hz1]; simp [hl]
        rw [e] at hr'
        have hlen : (zs.take n ++ news ++ zs.drop (n + m)).length = zs.length := by simp [hl]; omega
        refine ⟨_, _, zs.take n ++ news ++ zs.drop (n + m), hr', .inr ⟨g, by rw [hlen], hBg, ⟨setRow_heap w g _ _ 5 _ hblk.1, ?_⟩, by rw [hlen]; exact hroom, by rw [hlen]; exact hm⟩, ?_,
          ⟨rfl, rfl, rfl, by simp, fun k _ hk => setRow_other w g k _ (fun e => hk (by simp [Value.ownBlock, e]))⟩⟩
        · intro z hz
          simp only [List.mem_append] at hz
          rcases hz with (hz | hz) | hz
          · exact hblk.2 z (List.mem_of_mem_take hz)
          · exact hr.2 z hz
          · exact hblk.2 z (List.mem_of_mem_drop hz)
        · rw [List.take_append_of_le_length (by simp [hl]; omega)]
          exact List.take_of_length_le (by simp [hl]; omega)
      · have holds : ∀ j u, ((zs.take n).map (Value.int .u8))[j]? = some u → w.cell? ((⟨g, 0, none⟩ : Addr).add j) = some u := rd_cells (hblk.rd n)
        have hr' := run_append_grow (P := Try.prog) w 27 ty 5 i _ Try.underlying27 hi hz0 ⟨g, 0, none⟩ n zs.length ((zs.take n).map (Value.int .u8)) (by rw [hz1]; simp; omega) holds a m c (news.map (Value.int .u8)) hlm hcs (by omega) (by simp only [maxLen] at hml; omega) (growslice_fits (by omega) (by rw [hz2]; omega))
        obtain ⟨zs', e1, e2, e3, e4⟩ := grown zs.length (by omega) none (.inr hn)
        have hf := fresh zs.length (by omega) zs' e2 e4
        rw [e1] at hr'
        exact ⟨_, _, zs', hr', hf, e3, ⟨rfl, rfl, rfl, by simp, fun k hk _ => Below.heap_alloc w.drew _ k hk⟩⟩
theorem wpList_append_blk (w : World) {ops : Array Oper} {rest : List Oper} {o : Oper} {a : Act} {Q : Exit → Act → World → Prop} (hgd : o.guard = none) (s x : Operand)
    (ho : o.op = .call { callee := .builtin .append, args := #[s, x], argTypes := #[27, 27] }) (B : Nat) (v : Value) (n : Nat) (zs : List Int) (hs : a.eval s = v) (hown : Own B w v n zs)
    (ao : Option Addr) (m c : Nat) (news : List Int) (hx : a.eval x = .slice ao m c) (hr : Rd w ao news) (hl : news.length = m) (hc : ao = none → c = 0) (hb : n + m ≤ 140737488355328) (hB : B ≤ w.heap.size)
    (h : ∀ v' w' zs', Hid (Own B w' v' (n + m) zs') → Hid (zs'.take (n + m) = zs.take n ++ news) → w.grownBy w' v.ownBlock → wpList Try.prog ops Q rest (a.put o.dst v') w') : wpList Try.prog ops Q (o :: rest) a w := by
  refine wpList_plain hgd fun K hK => ?_
  obtain ⟨v', w', zs', hrun, h2, h3, h4⟩ := run_append_blk w B o.type v n zs hown ao m c news hr hl hc hb hB
  unfold Oper.wp execOp
  simp only [ho, resolve, invoke, builtin, Sem.run_bind, Sem.run_pure, Result.andThen_ok, List.map_toArray, List.map_cons, List.map_nil, hs, hx, hrun]
  exact hK _ _ (h v' w' zs' h2 h3 h4)
/-- 'make([]byte, n)' and 'make([]byte, l, n)'. -/
theorem wpList_make_blk (w : World) {ops : Array Oper} {rest : List Oper} {o : Oper} {a : Act} {Q : Exit → Act → World → Prop} (hgd : o.guard = none) (s x : Operand)
    (ho : o.op = .makeSlice 27 s x) (l n : Nat) (L C : Int) (hs : a.eval s = .int .i64 L) (hx : a.eval x = .int .i64 C) (hL : L = (l : Int)) (hC : C = (n : Int)) (hln : l ≤ n) (hn : n ≤ 281474976710656)
    (h : wpList Try.prog ops Q rest (a.put o.dst (.slice (some ⟨w.heap.size, 0, none⟩) l n)) (w.alloc (.cells ((List.replicate n (0 : Int)).map (Value.int .u8)).toArray 5))) : wpList Try.prog ops Q (o :: rest) a w := by
  refine wpList_plain hgd fun K hK => ?_
  obtain ⟨i, hi, hz0, hz1, hz2⟩ := info_parts Try.info5
  have hrun := run_make (P := Try.prog) w 27 5 i _ Try.underlying27 hi hz0 .i64 .i64 (l : Int) (n : Int) (by omega) (by omega) (by rw [hz2]; omega) (by omega)
  rw [hz1] at hrun
  simp only [Int.toNat_natCast, made_eq] at hrun
  subst hL
  subst hC
  unfold Oper.wp
  simp only [execOp, ho, hs, hx, Sem.run_bind, hrun, Result.andThen]
  exact hK _ _ h
theorem run_copy_blk (w : World) (ty : TypeId) (g : Nat) (n c : Nat) (zs : List Int) (hblk : Blk w g zs) (ao : Option Addr) (m d : Nat) (news : List Int) (hr : Rd w ao news) (hl : news.length = m) (hmn : m ≤ n) (hn : n ≤ zs.length) (hd : ao = none → d = 0) :
    (Builtin.copy_ #[27, 27] ty #[.slice (some ⟨g, 0, none⟩) n c, .slice ao m d]).run Try.prog w = .ok (goInt m) (w.setRow g ((news ++ zs.drop m).map (Value.int .u8)).toArray) := by
  by_cases hm : m = 0
  · subst hm
    have hnews : news = [] := List.eq_nil_of_length_eq_zero hl
    subst hnews
    have := run_copy_none (P := Try.prog) w 27 27 ty 5 (some ⟨g, 0, none⟩) ao n c 0 d Try.underlying27 (by kernel_rfl) (by simp)
    rw [this]
    simp
    rw [setRow_self w g _ 5 (0, 0) (by simpa using hblk.1)]
  · cases ao with
    | none =>
      rcases hr.1 with h1 | ⟨b, o, h, _⟩
      · subst h1; simp at hl; omega
      · cases h
    | some x =>
      have := run_copy_row (P := Try.prog) w 27 27 ty 5 g 0 n c x m d _ 5 (news.map (Value.int .u8)) Try.underlying27 (by kernel_rfl) hblk.1 (by simp [hl, Nat.min_eq_left hmn]) (rd_cells hr) (by simp [hl]; omega) (ints_oneCell _ _)
      rw [this]
      simp [hl]
theorem wpList_copy_blk (w : World) {ops : Array Oper} {rest : List Oper} {o : Oper} {a : Act} {Q : Exit → Act → World → Prop} (hgd : o.guard = none) (s x : Operand)
    (ho : o.op = .call { callee := .builtin .copy, args := #[s, x], argTypes := #[27, 27] }) (g : Nat) (n c : Nat) (zs : List Int) (hs : a.eval s = .slice (some ⟨g, 0, none⟩) n c) (hblk : Blk w g zs)
    (ao : Option Addr) (m d : Nat) (news : List Int) (hx : a.eval x = .slice ao m d) (hr : Rd w ao news) (hl : news.length = m) (hmn : m ≤ n) (hn : n ≤ zs.length) (hd : ao = none → d = 0)
    (h : ∀ w', Hid (Blk w' g (news ++ zs.drop m)) → w.grownBy w' (some g) → Hid (w'.heap.size = w.heap.size) → wpList Try.prog ops Q rest (a.put o.dst (goInt m)) w') : wpList Try.prog ops Q (o :: rest) a w := by
  refine wpList_plain hgd fun K hK => ?_
  have hrun := run_copy_blk w o.type g n c zs hblk ao m d news hr hl hmn hn hd
  unfold Oper.wp execOp
  simp only [ho, resolve, invoke, builtin, Sem.run_bind, Sem.run_pure, Result.andThen_ok, List.map_toArray, List.map_cons, List.map_nil, hs, hx, hrun]
  refine hK _ _ (h _ ⟨setRow_heap w g _ _ 5 _ hblk.1, ?_⟩ ⟨rfl, rfl, rfl, by simp [World.setRow], fun k _ hk => setRow_other w g k _ (fun e => hk (by rw [e]))⟩ (show _ = _ by simp [World.setRow]))
  intro z hz
  simp only [List.mem_append] at hz
  rcases hz with hz | hz
  · exact hr.2 z hz
  · exact hblk.2 z (List.mem_of_mem_drop hz)
/-- A store of a byte into a block. -/
theorem Blk.stored {w : World} {g : Nat} {zs : List Int} (h : Blk w g zs) (i : Nat) (z : Int) (hz : 0 ≤ z ∧ z ≤ 255) : Blk (w.setCell ⟨g, i, none⟩ (.int .u8 z)) g (zs.set i z) := by
  refine ⟨?_, fun x hx => ?_⟩
  · have hg := h.lt
    have h1 := h.1
    have e : w.heap[g] = .cells (zs.map (Value.int .u8)).toArray 5 (0, 0) := by
      rw [Array.getElem?_eq_getElem hg] at h1; exact Option.some.inj h1
    simp [World.setCell, hg, Array.getElem_modify, e, List.map_set]
  · rcases List.mem_or_eq_of_mem_set hx with hx | hx
    · exact h.2 x hx
    · subst hx; exact hz
end Go.Proofs.Ytdeoembjfdbbkaa
/- Lists of bytes of one's own, texts as numbers, and what stays of them. -/
namespace Go.Proofs.Ytdeoembjfdbbkaa
open Go.ChangeShapes Go.WideShapes Go.ChangeAt Go.RowKit
set_option linter.unusedVariables false
set_option linter.unusedSimpArgs false


/-- The text of bytes. -/
def txt (zs : List Int) : List UInt8 := zs.map fun z => UInt8.ofNat z.toNat
theorem txt_len (zs : List Int) : (txt zs).length = zs.length := by simp [txt]
theorem conv_rd (a : Option Addr) (n c : Nat) (zs : List Int) (w : World) (hr : Rd w a zs) (hl : zs.length = n) :
    (convert 27 9 (.slice a n c)).run Try.prog w = .ok (.string ⟨(txt zs).toArray⟩) w := by
  cases a with
  | none =>
    rcases hr.1 with h1 | ⟨b, o, h, _⟩
    · subst h1; subst hl
      rw [run_convert_bytes_string w 27 9 5 none _ c Try.underlying27 Try.underlying5 Try.underlying9]
      simp [Conv.bytesToString, txt]
      rfl
    · cases h
  | some x =>
    have := run_convert_bytes_back (P := Try.prog) w 27 9 5 x c (txt zs) Try.underlying27 Try.underlying5 Try.underlying9 (fun j hj => by
      rcases hr.1 with h1 | ⟨b, o, h, _, h2⟩
      · subst h1; simp [txt] at hj
      · cases h
        have hj' : j < zs.length := by simpa [txt] using hj
        have e := h2 j hj'
        have hz := hr.2 (zs[j]) (List.getElem_mem hj')
        rw [Addr.add_lit, e]
        simp [txt, hj']
        omega)
    rw [txt_len, hl] at this
    exact this
/-- A list of bytes at an address of its own. -/
def OwnA (B : Nat) (w : World) (ao : Option Addr) (n : Nat) (zs : List Int) : Prop :=
  (ao = none ∧ n = 0 ∧ zs = []) ∨ ∃ g, ao = some ⟨g, 0, none⟩ ∧ B ≤ g ∧ Blk w g zs ∧ n ≤ zs.length ∧ zs.length ≤ maxLen
/-- The block of an address. -/
def blk (ao : Option Addr) : Option Nat := ao.map (·.block)
theorem Own.addr {B : Nat} {w : World} {v : Value} {n : Nat} {zs : List Int} (h : Own B w v n zs) : ∃ ao, v = .slice ao n zs.length ∧ OwnA B w ao n zs := by
  rcases h with ⟨rfl, rfl, rfl⟩ | ⟨g, rfl, hB, hb, hn, hm⟩
  · exact ⟨none, rfl, .inl ⟨rfl, rfl, rfl⟩⟩
  · exact ⟨some ⟨g, 0, none⟩, rfl, .inr ⟨g, rfl, hB, hb, hn, hm⟩⟩
theorem OwnA.mono {B B' : Nat} {w : World} {ao : Option Addr} {n : Nat} {zs : List Int} (h : OwnA B w ao n zs) (hB : B' ≤ B) : OwnA B' w ao n zs := by
  rcases h with h | ⟨g, h1, h2, h3⟩
  · exact .inl h
  · exact .inr ⟨g, h1, Nat.le_trans hB h2, h3⟩
theorem OwnA.keep {B : Nat} {w w' : World} {ao : Option Addr} {n : Nat} {zs : List Int} (h : OwnA B w ao n zs) (hb : ∀ g, blk ao = some g → g < w.heap.size → w'.heap[g]? = w.heap[g]?) : OwnA B w' ao n zs := by
  rcases h with h | ⟨g, rfl, h2, h3, h4⟩
  · exact .inl h
  · exact .inr ⟨g, rfl, h2, h3.same (hb g rfl h3.lt), h4⟩
theorem OwnA.below {B : Nat} {w w' : World} {ao : Option Addr} {n : Nat} {zs : List Int} (h : OwnA B w ao n zs) (hb : Below w.heap.size w w') : OwnA B w' ao n zs :=
  h.keep fun g _ hg => hb.block g hg
theorem OwnA.lt {B : Nat} {w : World} {ao : Option Addr} {n : Nat} {zs : List Int} (h : OwnA B w ao n zs) : ∀ g, blk ao = some g → B ≤ g ∧ g < w.heap.size := by
  intro g hg
  rcases h with ⟨rfl, _⟩ | ⟨g', rfl, h2, h3, _⟩
  · cases hg
  · have : g' = g := Option.some.inj hg
    subst this; exact ⟨h2, h3.lt⟩
theorem OwnA.rd {B : Nat} {w : World} {ao : Option Addr} {n : Nat} {zs : List Int} (h : OwnA B w ao n zs) : Rd w ao zs := by
  rcases h with ⟨rfl, _, rfl⟩ | ⟨g, rfl, h2, h3, _⟩
  · exact ⟨.inl rfl, by simp⟩
  · have := h3.rd zs.length
    rwa [List.take_of_length_le (Nat.le_refl _)] at this
theorem OwnA.rdTake {B : Nat} {w : World} {ao : Option Addr} {n : Nat} {zs : List Int} (h : OwnA B w ao n zs) (m : Nat) : Rd w ao (zs.take m) := by
  rcases h with ⟨rfl, _, rfl⟩ | ⟨g, rfl, h2, h3, _⟩
  · exact ⟨.inl (by simp), by simp⟩
  · exact h3.rd m
theorem OwnA.nil {B : Nat} {w : World} {ao : Option Addr} {n : Nat} {zs : List Int} (h : OwnA B w ao n zs) : ao = none → zs.length = 0 := by
  rintro rfl
  rcases h with ⟨_, _, rfl⟩ | ⟨g, h, _⟩
  · rfl
  · cases h
theorem OwnA.le {B : Nat} {w : World} {ao : Option Addr} {n : Nat} {zs : List Int} (h : OwnA B w ao n zs) : n ≤ zs.length ∧ zs.length ≤ maxLen := by
  rcases h with ⟨_, rfl, rfl⟩ | ⟨g, _, _, _, h4, h5⟩
  · exact ⟨Nat.le_refl _, Nat.zero_le _⟩
  · exact ⟨h4, h5⟩
/-- The bytes of a text, as numbers. -/
def nums (s : ByteArray) : List Int := s.data.toList.map fun b => (b.toNat : Int)
theorem nums_len (s : ByteArray) : (nums s).length = s.size := by simp [nums]
theorem nums_at (s : ByteArray) (i : Nat) (h : i < s.size) : (nums s).getD i 0 = (s[i].toNat : Int) := by
  have h' : i < s.data.toList.length := by simpa using h
  simp [nums, List.getD_eq_getElem?_getD]
  rw [show s.data[i]? = some s[i] from Array.getElem?_eq_getElem h]
  rfl
theorem nums_bd (s : ByteArray) (i : Nat) : 0 ≤ (nums s).getD i 0 ∧ (nums s).getD i 0 ≤ 255 := by
  by_cases h : i < s.size
  · rw [nums_at s i h]; have := s[i].toNat_lt; omega
  · rw [List.getD_eq_getElem?_getD, List.getElem?_eq_none (by rw [nums_len]; omega)]; simp
theorem Own.below {B : Nat} {w w' : World} {v : Value} {n : Nat} {zs : List Int} (h : Own B w v n zs) (hb : Below w.heap.size w w') : Own B w' v n zs := by
  rcases h with h | ⟨g, h1, h2, h3, h4⟩
  · exact .inl h
  · exact .inr ⟨g, h1, h2, h3.below hb, h4⟩
theorem Own.lt {B : Nat} {w : World} {v : Value} {n : Nat} {zs : List Int} (h : Own B w v n zs) : ∀ g, v.ownBlock = some g → B ≤ g := by
  intro g hg
  rcases h with ⟨rfl, _⟩ | ⟨g', rfl, h2, _⟩
  · cases hg
  · have : g' = g := Option.some.inj hg
    omega
theorem new_rd (w : World) (z : Int) (hz : 0 ≤ z ∧ z ≤ 255) : Rd (w.alloc (.cells #[.int .u8 z] 5)) (some ⟨w.heap.size, 0, none⟩) [z] := by
  refine ⟨.inr ⟨w.heap.size, 0, rfl, by simp, fun i hi => ?_⟩, by simpa using hz⟩
  have : i = 0 := by simp at hi; omega
  subst this
  simp [go_sem]
theorem ret_int {k : IntKind} {a b : Int} (h : a = b) : Ending.returned (.int k a) = .returned (.int k b) := by rw [h]
theorem step_append_blk {ops : Array Oper} {o : Oper} {a : Act} {w : World} {K : Act → World → Prop} {Q : Exit → Act → World → Prop} {E : Prop} (hgd : o.guard = none) (s x : Operand)
    (ho : o.op = .call { callee := .builtin .append, args := #[s, x], argTypes := #[27, 27] }) (B : Nat) (v : Value) (n : Nat) (zs : List Int) (hs : a.eval s = v) (hown : Own B w v n zs)
    (ao : Option Addr) (m c : Nat) (news : List Int) (hx : a.eval x = .slice ao m c) (hr : Rd w ao news) (N : Nat) (hl : news.length = m) (hN : n + m = N) (hc : ao = none → c = 0) (hb : N ≤ 140737488355328) (hB : B ≤ w.heap.size)
    (h : ∀ v' w' zs', Hid (Own B w' v' N zs') → Hid (zs'.take N = zs.take n ++ news) → Hid (w.grownBy w' v.ownBlock) → K (a.put o.dst v') w') :
    if Region.wanted o (yielded ops a.tmps) = true then Oper.wp Try.prog o a w K Q else E := by
  have hw : Region.wanted o (yielded ops a.tmps) = true := by simp [Region.wanted, hgd]
  rw [if_pos hw]
  subst hN
  obtain ⟨v', w', zs', hrun, h2, h3, h4⟩ := run_append_blk w B o.type v n zs hown ao m c news hr hl hc hb hB
  unfold Oper.wp execOp
  simp only [ho, resolve, invoke, builtin, Sem.run_bind, Sem.run_pure, Result.andThen_ok, List.map_toArray, List.map_cons, List.map_nil, hs, hx, hrun]
  exact h v' w' zs' h2 h3 h4
theorem heap_set {w : World} {g : Nat} {cur : Array Value} {t : TypeId} {fr : Nat × Nat} (h : w.heap[g]? = some (.cells cur t fr)) (i : Nat) (v : Value) :
    (w.setCell ⟨g, i, none⟩ v).heap[g]? = some (.cells (cur.setIfInBounds i v) t fr) := by
  have hg : g < w.heap.size := (Array.getElem?_eq_some_iff.1 h).1
  have e : w.heap[g] = .cells cur t fr := by
    rw [Array.getElem?_eq_getElem hg] at h; exact Option.some.inj h
  simp [World.setCell, hg, Array.getElem_modify, e]
end Go.Proofs.Ytdeoembjfdbbkaa
/- What single bytes are: visible, digits, special; the byte that the front of a text stands for. -/
namespace Go.Proofs.Ytdeoembjfdbbkaa
open Go.ChangeShapes Go.WideShapes Go.ChangeAt Go.RowKit
set_option linter.unusedVariables false
set_option linter.unusedSimpArgs false


def vis (c : Int) : Bool := decide (33 ≤ c) && decide (c ≤ 126)
def dgt (c : Int) : Bool := decide (48 ≤ c) && decide (c ≤ 57)
theorem vis_iff (c : Int) : vis c = true ↔ 33 ≤ c ∧ c ≤ 126 := by simp [vis]
theorem dgt_iff (c : Int) : dgt c = true ↔ 48 ≤ c ∧ c ≤ 57 := by simp [dgt]
theorem ret_bool {a b : Bool} (h : a = b) : Ending.returned (.bool a) = .returned (.bool b) := by rw [h]
/-- The byte that the front of a text stands for, and how many bytes of it say so; 0, if they say none. -/
def v2 (a b : Int) : Int := 10 * (a - 48) + (b - 48)
def v3 (a b c : Int) : Int := 100 * (a - 48) + 10 * (b - 48) + (c - 48)
def num3 (l : List Int) : Int × Int :=
  if l.length < 4 then (0, 0)
  else if dgt (l.getD 1 0) && dgt (l.getD 2 0) && dgt (l.getD 3 0) && decide (v3 (l.getD 1 0) (l.getD 2 0) (l.getD 3 0) ≤ 255) then (v3 (l.getD 1 0) (l.getD 2 0) (l.getD 3 0), 4)
  else (0, 0)
def esc (l : List Int) : Int × Int :=
  if l.length ≤ 1 then (0, 0)
  else if dgt (l.getD 1 0) then num3 l
  else if vis (l.getD 1 0) then (l.getD 1 0, 2) else (0, 0)
def fr (l : List Int) : Int × Int :=
  if !vis (l.getD 0 0) then (0, 0)
  else if l.getD 0 0 == 92 then esc l
  else (l.getD 0 0, 1)
theorem ret_two {a b c d : Int} (h : a = c) (h' : b = d) : Ending.returned (.tuple #[.int .u8 a, .int .i64 b]) = .returned (.tuple #[.int .u8 c, .int .i64 d]) := by rw [h, h']
def num3c (a b c : Int) : Int × Int := if dgt a && dgt b && dgt c && decide (v3 a b c ≤ 255) then (v3 a b c, 4) else (0, 0)
end Go.Proofs.Ytdeoembjfdbbkaa
/- What the library's Builder does in a block of its own. -/
namespace Go.Proofs.Ytdeoembjfdbbkaa
open Go.ChangeShapes Go.WideShapes Go.ChangeAt Go.RowKit
set_option linter.unusedVariables false
set_option linter.unusedSimpArgs false

theorem below_row {B : Nat} {w0 w w' : World} {b : Nat} (hb : Below B w0 w) (hlt : b < w.heap.size) (hg : w.grownBy w' (some b)) (hB : B ≤ b) : Below B w0 w' :=
  hb.grown hg (by omega) (fun k e => by have := Option.some.inj e; omega)
theorem freeze_other (w : World) (g n b : Nat) (h : g ≠ b) : (w.freeze ⟨g, 0, none⟩ n).heap[b]? = w.heap[b]? := by
  unfold World.freeze
  split
  · rfl
  · simp [Array.getElem?_modify, h]
end Go.Proofs.Ytdeoembjfdbbkaa
/- What a Builder does that was given no room ahead. -/
namespace Go.Proofs.Ytdeoembjfdbbkaa
open Go.ChangeShapes Go.WideShapes Go.ChangeAt Go.RowKit
set_option linter.unusedVariables false
set_option linter.unusedSimpArgs false

theorem row_shape {B : Nat} {w : World} {e z : Nat} {v : Value} {n : Nat} {bs : List Value} (h : w.ownsRow B e z v n bs) : ∃ ao c, v = .slice ao n c := by
  rcases h.2 with ⟨rfl, rfl⟩ | ⟨g, cap, cur, rfl, _⟩
  · exact ⟨none, 0, rfl⟩
  · exact ⟨_, _, rfl⟩
theorem row_set {B : Nat} {w : World} {b : Nat} {v : Value} {n : Nat} {bs : List Value} (h : w.ownsRow B 5 1 v n bs) (hne : v.ownBlock ≠ some b) (i : Nat) (x : Value) : (w.setCell ⟨b, i, none⟩ x).ownsRow B 5 1 v n bs :=
  h.kept (row := some b) ⟨rfl, rfl, rfl, by simp [World.setCell], fun k _ hk => Below.heap_setCell _ _ _ _ (fun e => hk (by simp [e]))⟩ (.inr hne)
end Go.Proofs.Ytdeoembjfdbbkaa
/- A label's text, as the program writes it. -/
namespace Go.Proofs.Ytdeoembjfdbbkaa
open Go.ChangeShapes Go.WideShapes Go.ChangeAt Go.RowKit
set_option linter.unusedVariables false
set_option linter.unusedSimpArgs false


/-- Bytes that a backslash stands ahead of. -/
def spc (c : Int) : Bool := c == 46 || c == 92 || c == 34 || c == 59 || c == 40 || c == 41 || c == 64 || c == 36
def wst (c : Int) : Int := if c < 33 ∨ 126 < c then 2 else if spc c then 1 else 0
/-- How a byte is written. -/
def tx1 (c : Int) : List Int := if c < 33 ∨ 126 < c then [92, 48 + c / 100, 48 + c / 10 % 10, 48 + c % 10] else if spc c then [92, c] else [c]
def tx (l : List Int) : List Int := l.flatMap tx1
theorem tx_snoc (l : List Int) (c : Int) : tx (l ++ [c]) = tx l ++ tx1 c := by simp [tx]
theorem tx1_len (c : Int) : (tx1 c).length ≤ 4 ∧ 1 ≤ (tx1 c).length := by unfold tx1; split <;> (try split) <;> simp
theorem tx_len (l : List Int) : (tx l).length ≤ 4 * l.length := by
  induction l with
  | nil => simp [tx]
  | cons c l ih =>
    have := tx1_len c
    simp only [tx, List.flatMap_cons, List.length_append, List.length_cons] at ih ⊢
    omega
theorem tx1_bd (c : Int) (h : 0 ≤ c ∧ c ≤ 255) : ∀ z ∈ tx1 c, 0 ≤ z ∧ z ≤ 255 := by
  intro z hz
  unfold tx1 at hz
  split at hz
  · simp only [List.mem_cons, List.mem_nil_iff, or_false] at hz
    omega
  · split at hz
    · simp only [List.mem_cons, List.mem_nil_iff, or_false] at hz
      omega
    · simp only [List.mem_cons, List.mem_nil_iff, or_false] at hz
      omega
theorem tx_bd (l : List Int) (h : ∀ z ∈ l, 0 ≤ z ∧ z ≤ 255) : ∀ z ∈ tx l, 0 ≤ z ∧ z ≤ 255 := by
  intro z hz
  simp only [tx, List.mem_flatMap] at hz
  obtain ⟨c, hc, hz⟩ := hz
  exact tx1_bd c (h c hc) z hz
theorem spc_cases (c : Int) : (c = 46 ∨ c = 92 ∨ c = 34 ∨ c = 59 ∨ c = 40 ∨ c = 41 ∨ c = 64 ∨ c = 36) ∨ (spc c = false ∧ (c == 46) = false ∧ (c == 92) = false ∧ (c == 34) = false ∧ (c == 59) = false ∧ (c == 40) = false ∧ (c == 41) = false ∧ (c == 64) = false ∧ (c == 36) = false ∧ (c < 40 ∨ 41 < c)) := by
  by_cases h : c = 46 ∨ c = 92 ∨ c = 34 ∨ c = 59 ∨ c = 40 ∨ c = 41 ∨ c = 64 ∨ c = 36
  · exact .inl h
  · right
    have e1 : ¬ c = 46 := by omega
    have e2 : ¬ c = 92 := by omega
    have e3 : ¬ c = 34 := by omega
    have e4 : ¬ c = 59 := by omega
    have e5 : ¬ c = 40 := by omega
    have e6 : ¬ c = 41 := by omega
    have e7 : ¬ c = 64 := by omega
    have e8 : ¬ c = 36 := by omega
    simp [spc, e1, e2, e3, e4, e5, e6, e7, e8]
    omega
theorem bc_txt (l : List Int) (h : ∀ z ∈ l, 0 ≤ z ∧ z ≤ 255) : Lib.byteCells (txt l) = l.map (Value.int .u8) := by
  unfold Lib.byteCells txt
  rw [List.map_map]
  apply List.map_congr_left
  intro z hz
  have := h z hz
  simp
  omega
theorem nums_all' (s : ByteArray) : ∀ z ∈ nums s, 0 ≤ z ∧ z ≤ 255 := by
  intro z hz
  simp only [nums, List.mem_map] at hz
  obtain ⟨b, _, rfl⟩ := hz
  have := b.toNat_lt
  omega
end Go.Proofs.Ytdeoembjfdbbkaa
/- Folded texts, as the program and as the document make them; how two texts are compared. -/
namespace Go.Proofs.Ytdeoembjfdbbkaa
open Go.ChangeShapes Go.WideShapes Go.ChangeAt Go.RowKit
set_option linter.unusedVariables false
set_option linter.unusedSimpArgs false


def fz (z : Int) : Int := if 65 ≤ z ∧ z ≤ 90 then z + 32 else z
theorem fz_bd (z : Int) (h : 0 ≤ z ∧ z ≤ 255) : 0 ≤ fz z ∧ fz z ≤ 255 := by unfold fz; split <;> omega
/-- A block that came out of a text. -/
def Blk2 (w : World) (g : Nat) (zs : List Int) : Prop :=
  w.heap[g]? = some (.cells (zs.map (Value.int .u8)).toArray 5 (zs.length, zs.length + 1)) ∧ ∀ z ∈ zs, 0 ≤ z ∧ z ≤ 255
theorem Blk2.lt {w : World} {g : Nat} {zs : List Int} (h : Blk2 w g zs) : g < w.heap.size := (Array.getElem?_eq_some_iff.1 h.1).1
theorem Blk2.cell {w : World} {g : Nat} {zs : List Int} (h : Blk2 w g zs) (i : Nat) (hi : i < zs.length) : w.cell? ⟨g, i, none⟩ = some (.int .u8 (zs.getD i 0)) := by
  simp [World.cell?, h.1, hi]
theorem Blk2.frozen {w : World} {g : Nat} {zs : List Int} (h : Blk2 w g zs) (i : Nat) (hi : i < zs.length) : w.frozen? ⟨g, i, none⟩ = false := by
  simp [World.frozen?, h.1]; omega
theorem Blk2.rd {w : World} {g : Nat} {zs : List Int} (h : Blk2 w g zs) (n : Nat) : Rd w (some ⟨g, 0, none⟩) (zs.take n) := by
  refine ⟨.inr ⟨g, 0, rfl, h.lt, fun i hi => ?_⟩, fun z hz => h.2 z (List.mem_of_mem_take hz)⟩
  rw [Nat.zero_add, h.cell i (by simp at hi; omega)]
  have : i < n := by simp at hi; omega
  simp [List.getD_eq_getElem?_getD, this]
theorem Blk2.stored {w : World} {g : Nat} {zs : List Int} (h : Blk2 w g zs) (i : Nat) (z : Int) (hz : 0 ≤ z ∧ z ≤ 255) : Blk2 (w.setCell ⟨g, i, none⟩ (.int .u8 z)) g (zs.set i z) := by
  refine ⟨?_, fun x hx => ?_⟩
  · have hg := h.lt
    have h1 := h.1
    have e : w.heap[g] = .cells (zs.map (Value.int .u8)).toArray 5 (zs.length, zs.length + 1) := by
      rw [Array.getElem?_eq_getElem hg] at h1; exact Option.some.inj h1
    simp [World.setCell, hg, Array.getElem_modify, e, List.map_set]
  · rcases List.mem_or_eq_of_mem_set hx with hx | hx
    · exact h.2 x hx
    · subst hx; exact hz
theorem bytesRow_nums (s : ByteArray) (c : Nat) : bytesRow s c = ((nums s ++ List.replicate (c - s.size) 0).map (Value.int .u8)).toArray := by
  apply Array.ext'
  simp [bytesRow, nums]
theorem nums_bds (s : ByteArray) : ∀ z ∈ nums s, 0 ≤ z ∧ z ≤ 255 := by
  intro z hz
  simp only [nums, List.mem_map] at hz
  obtain ⟨b, _, rfl⟩ := hz
  have := b.toNat_lt
  omega
theorem conv_new (s : ByteArray) (w : World) : ∃ zs : List Int, (convert 9 27 (.string s)).run Try.prog w = .ok (.slice (some ⟨w.heap.size, 0, none⟩) s.size zs.length) (w.drew.alloc (.cells (zs.map (Value.int .u8)).toArray 5 (zs.length, zs.length + 1))) ∧
    Blk2 (w.drew.alloc (.cells (zs.map (Value.int .u8)).toArray 5 (zs.length, zs.length + 1))) w.heap.size zs ∧ zs.take s.size = nums s ∧ s.size ≤ zs.length := by
  have h := run_bytes_of_string (P := Try.prog) w 9 27 5 s Try.underlying9 Try.underlying27 Try.underlying5
  have hge := grownCap_ge w s.size 0 5
  have hl : (nums s ++ List.replicate (grownCap w s.size 0 5 - s.size) 0).length = grownCap w s.size 0 5 := by
    rw [List.length_append, nums_len, List.length_replicate]; omega
  refine ⟨nums s ++ List.replicate (grownCap w s.size 0 5 - s.size) 0, ?_, ⟨heap_alloc_new w.drew _, ?_⟩, ?_, by rw [hl]; exact hge⟩
  · rw [h, bytesRow_nums, hl]
    simp only [List.size_toArray, List.length_map, hl]
  · intro z hz
    simp only [List.mem_append, List.mem_replicate] at hz
    rcases hz with hz | ⟨_, rfl⟩
    · exact nums_bds s z hz
    · omega
  · rw [List.take_append_of_le_length (by rw [nums_len]; exact Nat.le_refl _), List.take_of_length_le (by rw [nums_len]; exact Nat.le_refl _)]
/-- The first k bytes are folded, the others as they were. -/
def FSt (l zs : List Int) (k : Nat) : Prop := l.length ≤ zs.length ∧ ∀ i, i < l.length → zs.getD i 0 = if i < k then fz (l.getD i 0) else l.getD i 0
theorem FSt.done {l zs : List Int} (h : FSt l zs l.length) : zs.take l.length = l.map fz := by
  apply List.ext_getElem
  · simp [h.1]
  · intro i h1 h2
    have hi : i < l.length := by simpa using h2
    have := h.2 i hi
    rw [if_pos hi] at this
    simp [List.getD_eq_getElem?_getD, List.getElem?_eq_getElem hi, List.getElem?_eq_getElem (show i < zs.length by have := h.1; omega)] at this
    simp [this]
theorem FSt.zero {l zs : List Int} (h : zs.take l.length = l) (hl : l.length ≤ zs.length) : FSt l zs 0 := by
  refine ⟨hl, fun i hi => ?_⟩
  rw [if_neg (by omega)]
  conv => rhs; rw [← h]
  simp [List.getD_eq_getElem?_getD, List.getElem?_take, hi]
theorem FSt.same {l zs : List Int} {k : Nat} (h : FSt l zs k) (hf : fz (l.getD k 0) = l.getD k 0) : FSt l zs (k + 1) := by
  refine ⟨h.1, fun i hi => ?_⟩
  rw [h.2 i hi]
  by_cases e : i = k
  · subst e; rw [if_neg (by omega), if_pos (by omega), hf]
  · by_cases e2 : i < k
    · rw [if_pos e2, if_pos (by omega)]
    · rw [if_neg e2, if_neg (by omega)]
theorem FSt.set {l zs : List Int} {k : Nat} (h : FSt l zs k) (hk : k < l.length) : FSt l (zs.set k (fz (l.getD k 0))) (k + 1) := by
  refine ⟨by rw [List.length_set]; exact h.1, fun i hi => ?_⟩
  have hl := h.1
  by_cases e : i = k
  · subst e
    rw [if_pos (by omega)]
    simp [List.getD_eq_getElem?_getD, List.getElem?_set, show i < zs.length by omega]
  · have : (zs.set k (fz (l.getD k 0))).getD i 0 = zs.getD i 0 := by
      simp [List.getD_eq_getElem?_getD, List.getElem?_set, show ¬ k = i by omega]
    rw [this, h.2 i hi]
    by_cases e2 : i < k
    · rw [if_pos e2, if_pos (by omega)]
    · rw [if_neg e2, if_neg (by omega)]
set_option maxRecDepth 100000 in
set_option maxHeartbeats 1000000 in
theorem fold_any (s : ByteArray) (w : World) (hs : s.size ≤ 9223372036854775807) :
    Calls Try.prog 67 #[.string s] w fun e w' => e = .returned (.string ⟨(txt ((nums s).map fz)).toArray⟩) ∧ Hid (Below w.heap.size w w') := by
  obtain ⟨zs, hc, hb, ht, hl⟩ := conv_new s w
  have H0 : Hid (Blk2 (w.drew.alloc (.cells (zs.map (Value.int .u8)).toArray 5 (zs.length, zs.length + 1))) w.heap.size zs ∧ FSt (nums s) zs 0 ∧ Below w.heap.size w (w.drew.alloc (.cells (zs.map (Value.int .u8)).toArray 5 (zs.length, zs.length + 1)))) := by
    refine ⟨hb, FSt.zero (by rw [nums_len]; exact ht) (by rw [nums_len]; exact hl), (Below.refl _ _).drew.alloc (Nat.le_refl _) _⟩
  have HLn : Hid (zs.length = zs.length) := rfl
  clear hb ht
  go_enter Try.func67, Try.ntmps67
  generalize hzl : zs.length = C at *
  have HZ : Hid (zs.length = C) := hzl
  clear hzl
  generalize (w.drew.alloc (.cells (zs.map (Value.int .u8)).toArray 5 (C, C + 1))) = W0 at *
  go_wp2_with fail
  go_loopw [10] (fun x wr => ∃ k : Nat, k ≤ s.size ∧ x = .int .i64 k ∧ Hid (∃ ys, ys.length = C ∧ Blk2 wr w.heap.size ys ∧ FSt (nums s) ys k) ∧ Hid (Below w.heap.size w wr)) (fun x _ => s.size - (intOf x).toNat)
  case atStart => exact ⟨0, Nat.zero_le _, rfl, ⟨zs, HZ.out, H0.out.1, H0.out.2.1⟩, H0.out.2.2⟩
  case round =>
    obtain ⟨k, hk, rfl, HW, HB⟩ := hrel
    clear H0 hc
    by_cases hlt : k < s.size
    · have hlt' : (k : Int) < (s.size : Int) := by omega
      obtain ⟨ys, e1, e2, e3⟩ := HW.out
      have hcell := e2.cell k (by omega)
      have hfr := e2.frozen k (by omega)
      have hv := e3.2 k (by rw [nums_len]; exact hlt)
      rw [if_neg (by omega)] at hv
      rw [hv] at hcell
      have hbd := nums_bd s k
      have HY : Hid (ys.length = C ∧ Blk2 wr w.heap.size ys ∧ FSt (nums s) ys k) := ⟨e1, e2, e3⟩
      have HK : Hid (k < (nums s).length) := (show k < _ by rw [nums_len]; exact hlt)
      have HF : Hid (fz ((nums s).getD k 0) = if 65 ≤ (nums s).getD k 0 ∧ (nums s).getD k 0 ≤ 90 then (nums s).getD k 0 + 32 else (nums s).getD k 0) := (show _ = _ from rfl)
      have HS1 : Hid (fz ((nums s).getD k 0) = (nums s).getD k 0 → FSt (nums s) ys (k + 1)) := fun h => e3.same h
      have HS2 : Hid (FSt (nums s) (ys.set k (fz ((nums s).getD k 0))) (k + 1)) := e3.set HK.out
      clear e1 e2 e3 hv
      generalize (nums s).getD k 0 = z at *
      by_cases hu : 65 ≤ z ∧ z ≤ 90
      · have hz1 : fz z = z + 32 := by rw [HF.out, if_pos hu]
        rw [hz1] at HS2
        have HB3 : Hid (Blk2 (wr.setCell ⟨w.heap.size, k, none⟩ (.int .u8 (z + 32))) w.heap.size (ys.set k (z + 32)) ∧ Below w.heap.size w (wr.setCell ⟨w.heap.size, k, none⟩ (.int .u8 (z + 32)))) := ⟨HY.out.2.1.stored k _ (by omega), HB.out.setCell (Nat.le_refl _) _⟩
        clear hz1
        go_wp2
        rw [show z - 65 + 97 = z + 32 by omega]
        refine ⟨⟨k + 1, by omega, by go_num, ⟨_, ?_, HB3.out.1, HS2.out⟩, HB3.out.2⟩, by simp [intOf]; omega⟩
        rw [List.length_set]; exact HY.out.1
      · have hz1 : fz z = z := by rw [HF.out, if_neg hu]
        have HS3 : Hid (FSt (nums s) ys (k + 1)) := HS1.out hz1
        clear hz1 HS1 HS2
        have hor : z < 65 ∨ 90 < z := by omega
        clear HF
        rcases hor with ho | ho
        all_goals
          go_wp2
          exact ⟨⟨k + 1, by omega, by go_num, ⟨ys, HY.out.1, HY.out.2.1, HS3.out⟩, HB.out⟩, by simp [intOf]; omega⟩
    · have hge : (s.size : Int) ≤ (k : Int) := by omega
      obtain ⟨ys, e1, e2, e3⟩ := HW.out
      have hks : k = s.size := by omega
      have hd : ys.take s.size = (nums s).map fz := by
        have := FSt.done (l := nums s) (zs := ys) (by rw [nums_len, ← hks]; exact e3)
        rw [nums_len] at this
        exact this
      have hrd := e2.rd s.size
      rw [hd] at hrd
      have hcv := conv_rd (some ⟨w.heap.size, 0, none⟩) s.size C ((nums s).map fz) wr hrd (by rw [List.length_map, nums_len])
      clear hrd hd e1 e2 e3
      go_wp2
      go_ret
      exact ⟨rfl, HB.out⟩
set_option maxRecDepth 100000 in
set_option maxHeartbeats 1000000 in
theorem rfold_any (s : ByteArray) (w : World) (hs : s.size ≤ 140737488355000) :
    Calls Try.prog 49 #[.string s] w fun e w' => e = .returned (.string ⟨(txt ((nums s).map fz)).toArray⟩) ∧ Hid (Below w.heap.size w w') := by
  go_enter Try.func49, Try.ntmps49
  go_wp2_with fail
  go_loopw [3, 4] (fun v x wr => ∃ k : Nat, k ≤ s.size ∧ x = .int .i64 k ∧ Hid (∃ ys, Own w.heap.size wr v k ys ∧ ys.take k = ((nums s).take k).map fz) ∧ Hid (Below w.heap.size w wr)) (fun _ x _ => s.size - (intOf x).toNat)
  case atStart => exact ⟨0, Nat.zero_le _, rfl, ⟨[], .inl ⟨rfl, rfl, rfl⟩, rfl⟩, Below.refl _ _⟩
  case round =>
    obtain ⟨k, hk, rfl, HW, HB⟩ := hrel
    by_cases hlt : k < s.size
    · have hlt' : (k : Int) < (s.size : Int) := by omega
      have hbd := nums_bd s k
      have HT : Hid ((nums s).take (k + 1) = (nums s).take k ++ [(nums s).getD k 0]) := take_snoc _ _ (by rw [nums_len]; exact hlt)
      rw [nums_at s k hlt] at hbd HT
      obtain ⟨ys, hO, hT⟩ := HW.out
      by_cases hu : 65 ≤ (s[k].toNat : Int) ∧ (s[k].toNat : Int) ≤ 90
      · have HZ : Hid (fz (s[k].toNat : Int) = (s[k].toNat : Int) + 32) := by show _ = _; unfold fz; rw [if_pos hu]
        have hnb : Below wr.heap.size wr (wr.alloc (.cells #[.int .u8 ((s[k].toNat : Int) + 32)] 5)) := (Below.refl _ _).alloc (Nat.le_refl _) _
        have HO2 : Hid (Own w.heap.size (wr.alloc (.cells #[.int .u8 ((s[k].toNat : Int) + 32)] 5)) u3 k ys ∧ ys.take k = ((nums s).take k).map fz) := ⟨hO.below hnb, hT⟩
        have HR2 : Hid (Rd (wr.alloc (.cells #[.int .u8 ((s[k].toNat : Int) + 32)] 5)) (some ⟨wr.heap.size, 0, none⟩) [(s[k].toNat : Int) + 32]) := new_rd wr _ (by omega)
        have HNB : Hid (Below wr.heap.size wr (wr.alloc (.cells #[.int .u8 ((s[k].toNat : Int) + 32)] 5))) := hnb
        clear hO hT hnb
        go_wp2_with (at_builtin; refine wpList_append_blk _ rfl _ _ rfl w.heap.size _ k ys rfl HO2.out.1 (some ⟨wr.heap.size, 0, none⟩) 1 1 [(s[k].toNat : Int) + 32] rfl HR2.out rfl (by simp) (by omega) (Nat.le_trans HB.out.size HNB.out.size) ?_; intro v' w' ys' hO' hT' hG')
        have hrow := HO2.out.1.lt
        refine ⟨⟨k + 1, by omega, by go_num, ⟨ys', hO'.out, ?_⟩, ?_⟩, by simp [intOf]; omega⟩
        · rw [hT'.out, HO2.out.2, HT.out, List.map_append, List.map_singleton, HZ.out]
        · exact (HB.out.trans (HNB.out.mono HB.out.size)).grown hG' (Nat.le_trans HB.out.size HNB.out.size) hrow
      · have HZ : Hid (fz (s[k].toNat : Int) = (s[k].toNat : Int)) := by show _ = _; unfold fz; rw [if_neg hu]
        have hnb : Below wr.heap.size wr (wr.alloc (.cells #[.int .u8 (s[k].toNat : Int)] 5)) := (Below.refl _ _).alloc (Nat.le_refl _) _
        have HO2 : Hid (Own w.heap.size (wr.alloc (.cells #[.int .u8 (s[k].toNat : Int)] 5)) u3 k ys ∧ ys.take k = ((nums s).take k).map fz) := ⟨hO.below hnb, hT⟩
        have HR2 : Hid (Rd (wr.alloc (.cells #[.int .u8 (s[k].toNat : Int)] 5)) (some ⟨wr.heap.size, 0, none⟩) [(s[k].toNat : Int)]) := new_rd wr _ (by omega)
        have HNB : Hid (Below wr.heap.size wr (wr.alloc (.cells #[.int .u8 (s[k].toNat : Int)] 5))) := hnb
        clear hO hT hnb
        have hor : (s[k].toNat : Int) < 65 ∨ 90 < (s[k].toNat : Int) := by omega
        clear hu
        rcases hor with ho | ho
        all_goals
          go_wp2_with (at_builtin; refine wpList_append_blk _ rfl _ _ rfl w.heap.size _ k ys rfl HO2.out.1 (some ⟨wr.heap.size, 0, none⟩) 1 1 [(s[k].toNat : Int)] rfl HR2.out rfl (by simp) (by omega) (Nat.le_trans HB.out.size HNB.out.size) ?_; intro v' w' ys' hO' hT' hG')
          have hrow := HO2.out.1.lt
          refine ⟨⟨k + 1, by omega, by go_num, ⟨ys', hO'.out, ?_⟩, ?_⟩, by simp [intOf]; omega⟩
          · rw [hT'.out, HO2.out.2, HT.out, List.map_append, List.map_singleton, HZ.out]
          · exact (HB.out.trans (HNB.out.mono HB.out.size)).grown hG' (Nat.le_trans HB.out.size HNB.out.size) hrow
    · obtain ⟨ys, hO, hT⟩ := HW.out
      have ek : (nums s).take k = nums s := List.take_of_length_le (by rw [nums_len]; omega)
      rw [ek] at hT
      obtain ⟨ao, rfl, hoa⟩ := hO.addr
      have hrd := hoa.rdTake k
      rw [hT] at hrd
      have hcv := conv_rd ao k ys.length ((nums s).map fz) wr hrd (by rw [List.length_map, nums_len]; omega)
      have hge : (s.size : Int) ≤ (k : Int) := by omega
      clear hO hT hoa hrd ek
      generalize ys.length = yl at *
      go_wp2
      go_ret
      exact ⟨rfl, HB.out⟩
/-- A text of bytes, as numbers: what it was made of. -/
theorem nums_txt (l : List Int) (h : ∀ z ∈ l, 0 ≤ z ∧ z ≤ 255) : nums ⟨(txt l).toArray⟩ = l := by
  unfold nums txt
  simp only [List.map_map]
  conv => rhs; rw [← List.map_id l]
  apply List.map_congr_left
  intro z hz
  have := h z hz
  simp
  omega
theorem txt_nums (s : ByteArray) : (⟨(txt (nums s)).toArray⟩ : ByteArray) = s := by
  have : txt (nums s) = s.data.toList := by
    unfold nums txt
    rw [List.map_map]
    conv => rhs; rw [← List.map_id s.data.toList]
    apply List.map_congr_left
    intro b _
    simp
  rw [this]
/-- The folded bytes. -/
def fl (s : ByteArray) : List Int := (nums s).map fz
theorem fl_len (s : ByteArray) : (fl s).length = s.size := by rw [fl, List.length_map, nums_len]
theorem fl_all (s : ByteArray) : ∀ z ∈ fl s, 0 ≤ z ∧ z ≤ 255 := by
  intro z hz
  simp only [fl, List.mem_map] at hz
  obtain ⟨y, hy, rfl⟩ := hz
  exact fz_bd y (nums_bds s y hy)
/-- How two are ordered. -/
def cmp (a b : ByteArray) : Int := Lib.compareBytes (txt (fl a)) (txt (fl b))
end Go.Proofs.Ytdeoembjfdbbkaa
/- How bytes are ordered, and folded texts. -/
namespace Go.Proofs.Ytdeoembjfdbbkaa
open Go.ChangeShapes Go.WideShapes Go.ChangeAt Go.RowKit
set_option linter.unusedVariables false
set_option linter.unusedSimpArgs false


theorem ba_loop (s : ByteArray) (n : Nat) : ∀ i r, s.size - i = n → ByteArray.toList.loop s i r = r.reverse ++ s.data.toList.drop i := by
  induction n with
  | zero =>
    intro i r h
    unfold ByteArray.toList.loop
    rw [if_neg (by omega), List.drop_eq_nil_of_le (by simp; omega), List.append_nil]
  | succ n ih =>
    intro i r h
    unfold ByteArray.toList.loop
    have hi : i < s.data.toList.length := by simp; omega
    rw [if_pos (by omega), ih (i + 1) _ (by omega), List.reverse_cons, List.append_assoc, List.drop_eq_getElem_cons hi]
    congr 1
    show (s.data[i]! :: s.data.toList.drop (i + 1)) = _
    have h2 : i < s.data.size := by simpa using hi
    rw [getElem!_pos s.data i h2]; rfl
theorem ba_toList (s : ByteArray) : s.toList = s.data.toList := by
  unfold ByteArray.toList
  rw [ba_loop s _ 0 [] rfl]
  simp
theorem ba_inj {a b : ByteArray} (h : a.toList = b.toList) : a = b := by
  rw [ba_toList, ba_toList] at h
  cases a; cases b
  simp at h
  rw [h]
theorem cb_refl : ∀ l : List UInt8, Lib.compareBytes l l = 0
  | [] => rfl
  | x :: l => by unfold Lib.compareBytes; rw [if_neg (UInt8.lt_irrefl x), if_neg (UInt8.lt_irrefl x)]; exact cb_refl l
theorem cb_range : ∀ a b : List UInt8, Lib.compareBytes a b = -1 ∨ Lib.compareBytes a b = 0 ∨ Lib.compareBytes a b = 1
  | [], [] => .inr (.inl rfl)
  | [], _ :: _ => .inl rfl
  | _ :: _, [] => .inr (.inr rfl)
  | x :: a, y :: b => by
    unfold Lib.compareBytes
    split
    · exact .inl rfl
    · split
      · exact .inr (.inr rfl)
      · exact cb_range a b
theorem cb_zero : ∀ a b : List UInt8, Lib.compareBytes a b = 0 → a = b
  | [], [] => fun _ => rfl
  | [], _ :: _ => fun h => by cases h
  | _ :: _, [] => fun h => by cases h
  | x :: a, y :: b => fun h => by
    unfold Lib.compareBytes at h
    split at h
    · cases h
    · split at h
      · cases h
      · rename_i h1 h2
        have e : x = y := UInt8.le_antisymm (UInt8.not_lt.1 h2) (UInt8.not_lt.1 h1)
        rw [e, cb_zero a b h]
theorem cb_neg : ∀ a b : List UInt8, Lib.compareBytes b a = - Lib.compareBytes a b
  | [], [] => rfl
  | [], _ :: _ => rfl
  | _ :: _, [] => rfl
  | x :: a, y :: b => by
    unfold Lib.compareBytes
    by_cases h1 : x < y
    · have h2 : ¬ y < x := UInt8.lt_asymm h1
      rw [if_neg h2, if_pos h1, if_pos h1]; rfl
    · by_cases h2 : y < x
      · rw [if_pos h2, if_neg h1, if_pos h2]
      · rw [if_neg h2, if_neg h1, if_neg h1, if_neg h2]; exact cb_neg a b
theorem cb_trans : ∀ a b c : List UInt8, Lib.compareBytes a b ≤ 0 → Lib.compareBytes b c ≤ 0 → Lib.compareBytes a c ≤ 0
  | [], _, [] => fun _ _ => by decide
  | [], _, _ :: _ => fun _ _ => by unfold Lib.compareBytes; decide
  | _ :: _, [], _ => fun h _ => by unfold Lib.compareBytes at h; exact absurd h (by decide)
  | x :: a, y :: b, [] => fun _ h => by unfold Lib.compareBytes at h; exact absurd h (by decide)
  | x :: a, y :: b, z :: c => fun h1 h2 => by
    unfold Lib.compareBytes at h1 h2 ⊢
    by_cases e1 : x < y
    · by_cases e2 : y < z
      · rw [if_pos (UInt8.lt_trans e1 e2)]; decide
      · rw [if_neg e2] at h2
        by_cases e3 : z < y
        · rw [if_pos e3] at h2; exact absurd h2 (by decide)
        · have : y = z := UInt8.le_antisymm (UInt8.not_lt.1 e3) (UInt8.not_lt.1 e2)
          rw [← this, if_pos e1]; decide
    · rw [if_neg e1] at h1
      by_cases e3 : y < x
      · rw [if_pos e3] at h1; exact absurd h1 (by decide)
      · have e : x = y := UInt8.le_antisymm (UInt8.not_lt.1 e3) (UInt8.not_lt.1 e1)
        rw [if_neg e3] at h1
        subst e
        by_cases e2 : x < z
        · rw [if_pos e2]; decide
        · rw [if_neg e2] at h2 ⊢
          by_cases e4 : z < x
          · rw [if_pos e4] at h2; exact absurd h2 (by decide)
          · rw [if_neg e4] at h2 ⊢
            exact cb_trans a b c h1 h2
/-- The folded text. -/
def fb (s : ByteArray) : ByteArray := ⟨(txt (fl s)).toArray⟩
theorem fz_fz (z : Int) : fz (fz z) = fz z := by unfold fz; split <;> (try split) <;> omega
theorem fb_size (s : ByteArray) : (fb s).size = s.size := by
  show (txt (fl s)).toArray.size = _
  simp [txt, fl_len]
theorem fl_fb (s : ByteArray) : fl (fb s) = fl s := by
  have h : nums (fb s) = fl s := nums_txt _ (fl_all s)
  rw [show fl (fb s) = (nums (fb s)).map fz from rfl, h]
  conv => lhs; rw [show fl s = (nums s).map fz from rfl]
  rw [List.map_map]
  show (nums s).map (fz ∘ fz) = (nums s).map fz
  congr 1
  funext z
  exact fz_fz z
theorem fb_fb (s : ByteArray) : fb (fb s) = fb s := by rw [show fb (fb s) = ⟨(txt (fl (fb s))).toArray⟩ from rfl, fl_fb]; rfl
theorem fb_eq (a b : ByteArray) : fb a = fb b ↔ cmp a b = 0 := by
  constructor
  · intro h
    have : txt (fl a) = txt (fl b) := by
      have := congrArg (fun s => s.data.toList) h
      simpa [fb] using this
    unfold cmp
    rw [this]; exact cb_refl _
  · intro h
    unfold fb
    rw [cb_zero _ _ h]
end Go.Proofs.Ytdeoembjfdbbkaa
/- A label's text and the order of two, as the document has them. -/
namespace Go.Proofs.Ytdeoembjfdbbkaa
open Go.ChangeShapes Go.WideShapes Go.ChangeAt Go.RowKit
set_option linter.unusedVariables false
set_option linter.unusedSimpArgs false


theorem new_rd4 (w : World) (a b c d : Int) (ha : 0 ≤ a ∧ a ≤ 255) (hb : 0 ≤ b ∧ b ≤ 255) (hc : 0 ≤ c ∧ c ≤ 255) (hd : 0 ≤ d ∧ d ≤ 255) : Rd (w.alloc (.cells #[.int .u8 a, .int .u8 b, .int .u8 c, .int .u8 d] 5)) (some ⟨w.heap.size, 0, none⟩) [a, b, c, d] := by
  refine ⟨.inr ⟨w.heap.size, 0, rfl, by simp, fun i hi => ?_⟩, by simp only [List.mem_cons, List.mem_nil_iff, or_false]; omega⟩
  have : i = 0 ∨ i = 1 ∨ i = 2 ∨ i = 3 := by simp at hi; omega
  rcases this with rfl | rfl | rfl | rfl <;> simp [go_sem]
theorem cb_step (a b : ByteArray) (i : Nat) (ha : i < a.size) (hb : i < b.size) : Lib.compareBytes (a.data.toList.drop i) (b.data.toList.drop i) = if (a[i].toNat : Int) < (b[i].toNat : Int) then -1 else if (b[i].toNat : Int) < (a[i].toNat : Int) then 1 else Lib.compareBytes (a.data.toList.drop (i + 1)) (b.data.toList.drop (i + 1)) := by
  have ha' : i < a.data.toList.length := by simpa using ha
  have hb' : i < b.data.toList.length := by simpa using hb
  rw [List.drop_eq_getElem_cons ha', List.drop_eq_getElem_cons hb']
  have ea : a.data.toList[i] = a[i] := rfl
  have eb : b.data.toList[i] = b[i] := rfl
  rw [ea, eb]
  conv => lhs; unfold Lib.compareBytes
  have e1 : (a[i] < b[i]) = ((a[i].toNat : Int) < (b[i].toNat : Int)) := by rw [UInt8.lt_iff_toNat_lt]; exact propext (by omega)
  have e2 : (b[i] < a[i]) = ((b[i].toNat : Int) < (a[i].toNat : Int)) := by rw [UInt8.lt_iff_toNat_lt]; exact propext (by omega)
  simp only [e1, e2]
theorem cb_end (a b : ByteArray) (i : Nat) (h : ¬ (i < a.size ∧ i < b.size)) (hi : i ≤ a.size ∧ i ≤ b.size) : Lib.compareBytes (a.data.toList.drop i) (b.data.toList.drop i) = if (a.size : Int) < (b.size : Int) then -1 else if (b.size : Int) < (a.size : Int) then 1 else 0 := by
  by_cases h1 : i < a.size
  · have hb : b.size ≤ i := by omega
    rw [List.drop_eq_nil_of_le (show b.data.toList.length ≤ i by simpa using hb), List.drop_eq_getElem_cons (show i < a.data.toList.length by simpa using h1), if_neg (by omega), if_pos (by omega)]
    rfl
  · rw [List.drop_eq_nil_of_le (show a.data.toList.length ≤ i by simp; omega)]
    by_cases h2 : i < b.size
    · rw [List.drop_eq_getElem_cons (show i < b.data.toList.length by simpa using h2), if_pos (by omega)]
      rfl
    · rw [List.drop_eq_nil_of_le (show b.data.toList.length ≤ i by simp; omega), if_neg (by omega), if_neg (by omega)]
      rfl
end Go.Proofs.Ytdeoembjfdbbkaa
/- Which label a text begins with, as the program reads it. -/
namespace Go.Proofs.Ytdeoembjfdbbkaa
open Go.ChangeShapes Go.WideShapes Go.ChangeAt Go.RowKit
set_option linter.unusedVariables false
set_option linter.unusedSimpArgs false


theorem getD_bd (l : List Int) (h : ∀ z ∈ l, 0 ≤ z ∧ z ≤ 255) (i : Nat) : 0 ≤ l.getD i 0 ∧ l.getD i 0 ≤ 255 := by
  by_cases hi : i < l.length
  · have := h (l.getD i 0) (by rw [List.getD_eq_getElem?_getD, List.getElem?_eq_getElem hi]; simp)
    exact this
  · rw [List.getD_eq_getElem?_getD, List.getElem?_eq_none (by omega)]; simp
theorem num3_bd (l : List Int) : 0 ≤ (num3 l).1 ∧ (num3 l).1 ≤ 255 ∧ 0 ≤ (num3 l).2 ∧ (num3 l).2 ≤ l.length := by
  unfold num3
  split
  · simp
  · split
    · rename_i h1 h2
      simp only [Bool.and_eq_true, dgt_iff, decide_eq_true_eq] at h2
      simp only
      unfold v3 at *
      omega
    · simp
theorem esc_bd (l : List Int) (h : ∀ z ∈ l, 0 ≤ z ∧ z ≤ 255) : 0 ≤ (esc l).1 ∧ (esc l).1 ≤ 255 ∧ 0 ≤ (esc l).2 ∧ (esc l).2 ≤ l.length := by
  unfold esc
  split
  · simp
  · split
    · exact num3_bd l
    · split
      · have := getD_bd l h 1
        simp only
        omega
      · simp
theorem fr_bd (l : List Int) (h : ∀ z ∈ l, 0 ≤ z ∧ z ≤ 255) (hl : 0 < l.length) : 0 ≤ (fr l).1 ∧ (fr l).1 ≤ 255 ∧ 0 ≤ (fr l).2 ∧ (fr l).2 ≤ l.length := by
  unfold fr
  split
  · simp
  · split
    · exact esc_bd l h
    · have := getD_bd l h 0
      simp only
      omega
theorem nums_all (s : ByteArray) : ∀ z ∈ nums s, 0 ≤ z ∧ z ≤ 255 := by
  intro z hz
  simp only [nums, List.mem_map] at hz
  obtain ⟨b, _, rfl⟩ := hz
  have := b.toNat_lt
  omega
/-- The label's bytes and the place behind them; none, if a byte can't be read. -/
def go (l : List Int) (p : Nat) (out : List Int) : Option (List Int × Nat) :=
  if h : p < l.length ∧ l.getD p 0 ≠ 46 then
    if hn : (fr (l.drop p)).2 ≤ 0 then none
    else go l (p + (fr (l.drop p)).2.toNat) (out ++ [(fr (l.drop p)).1])
  else some (out, p)
termination_by l.length - p
decreasing_by omega
/-- What Parse answers: the label's bytes, how much of the text it is, the error. -/
def pres (l : List Int) : List Int × Int × Int :=
  match go l 0 [] with
  | none => ([], 0, 120)
  | some (out, p) => if 1 ≤ out.length ∧ out.length ≤ 63 then (out, (p : Int), 0) else ([], 0, 4)
def chk (n : Nat) : Int := if 1 ≤ n ∧ n ≤ 63 then 0 else 4
set_option maxRecDepth 100000 in
set_option maxHeartbeats 400000 in
theorem chk_any (s : ByteArray) (w : World) (hs : s.size ≤ 9223372036854775807) :
    Calls Try.prog 65 #[.string s] w fun e w' => e = .returned (.int .i64 (chk s.size)) ∧ w' = w := by
  by_cases h : 1 ≤ s.size ∧ s.size ≤ 63
  · have h1 : ¬ (s.size : Int) < 1 := by omega
    have h2 : ¬ (63 : Int) < (s.size : Int) := by omega
    have HE : Hid (chk s.size = 0) := by show _ = _; unfold chk; rw [if_pos h]
    clear h
    go_enter Try.func65, Try.ntmps65
    go_wp2
    go_ret
    exact ⟨by rw [HE.out]; rfl, rfl⟩
  · have HE : Hid (chk s.size = 4) := by show _ = _; unfold chk; rw [if_neg h]
    have ho : (s.size : Int) < 1 ∨ (63 : Int) < (s.size : Int) := by omega
    clear h
    rcases ho with ho | ho
    all_goals
      go_enter Try.func65, Try.ntmps65
      go_wp2
      go_ret
      exact ⟨by rw [HE.out]; rfl, rfl⟩
set_option maxRecDepth 100000 in
set_option maxHeartbeats 400000 in
theorem rchk_any (s : ByteArray) (w : World) (hs : s.size ≤ 9223372036854775807) :
    Calls Try.prog 84 #[.string s] w fun e w' => e = .returned (.int .i64 (chk s.size)) ∧ w' = w := by
  by_cases h : 1 ≤ s.size ∧ s.size ≤ 63
  · have h1 : ¬ (s.size : Int) < 1 := by omega
    have h2 : ¬ (63 : Int) < (s.size : Int) := by omega
    have HE : Hid (chk s.size = 0) := by show _ = _; unfold chk; rw [if_pos h]
    clear h
    go_enter Try.func84, Try.ntmps84
    go_wp2
    go_ret
    exact ⟨by rw [HE.out]; rfl, rfl⟩
  · have HE : Hid (chk s.size = 4) := by show _ = _; unfold chk; rw [if_neg h]
    have ho : (s.size : Int) < 1 ∨ (63 : Int) < (s.size : Int) := by omega
    clear h
    rcases ho with ho | ho
    all_goals
      go_enter Try.func84, Try.ntmps84
      go_wp2
      go_ret
      exact ⟨by rw [HE.out]; rfl, rfl⟩
theorem nums_extract (s : ByteArray) (p : Nat) : nums (s.extract p s.size) = (nums s).drop p := by
  simp only [nums, ByteArray.data_extract]
  rw [Array.toList_extract, List.extract_eq_take_drop, ← List.map_drop, List.take_of_length_le (by simp)]
theorem txt_size (l : List Int) : (⟨(txt l).toArray⟩ : ByteArray).size = l.length := by
  show (txt l).toArray.size = _
  simp [txt]
theorem go_stop (l : List Int) (p : Nat) (out : List Int) (h : ¬ (p < l.length ∧ l.getD p 0 ≠ 46)) : go l p out = some (out, p) := by
  rw [go, dif_neg h]
theorem go_bad (l : List Int) (p : Nat) (out : List Int) (h : p < l.length ∧ l.getD p 0 ≠ 46) (hn : (fr (l.drop p)).2 ≤ 0) : go l p out = none := by
  rw [go, dif_pos h, dif_pos hn]
theorem go_step (l : List Int) (p : Nat) (out : List Int) (h : p < l.length ∧ l.getD p 0 ≠ 46) (hn : ¬ (fr (l.drop p)).2 ≤ 0) : go l p out = go l (p + (fr (l.drop p)).2.toNat) (out ++ [(fr (l.drop p)).1]) := by
  rw [go, dif_pos h, dif_neg hn]
def PPost (s : ByteArray) (w : World) (e : Ending) (w' : World) : Prop :=
  e = .returned (.tuple #[.string ⟨(txt (pres (nums s)).1).toArray⟩, .int .i64 (pres (nums s)).2.1, .int .i64 (pres (nums s)).2.2]) ∧ Hid (Below w.heap.size w w')
theorem pres_ok {l out : List Int} {p : Nat} (h : go l 0 [] = some (out, p)) (hc : chk out.length = 0) : pres l = (out, (p : Int), 0) := by
  unfold pres
  rw [h]
  simp only
  unfold chk at hc
  split at hc
  · rename_i h1; rw [if_pos h1]
  · cases hc
theorem pres_no {l out : List Int} {p : Nat} (h : go l 0 [] = some (out, p)) (hc : ¬ chk out.length = 0) : pres l = ([], 0, 4) ∧ chk out.length = 4 := by
  unfold pres
  rw [h]
  simp only
  unfold chk at hc ⊢
  split at hc
  · exact absurd rfl hc
  · rename_i h1; rw [if_neg h1, if_neg h1]; exact ⟨rfl, rfl⟩
theorem pres_bad {l : List Int} (h : go l 0 [] = none) : pres l = ([], 0, 120) := by
  unfold pres
  rw [h]
end Go.Proofs.Ytdeoembjfdbbkaa
/- Which label a text begins with, as the document reads it. -/
namespace Go.Proofs.Ytdeoembjfdbbkaa
open Go.ChangeShapes Go.WideShapes Go.ChangeAt Go.RowKit
set_option linter.unusedVariables false
set_option linter.unusedSimpArgs false


theorem getD_drop (l : List Int) (p i : Nat) : (l.drop p).getD i 0 = l.getD (p + i) 0 := by
  simp [List.getD_eq_getElem?_getD, List.getElem?_drop]
theorem fr_at (s : ByteArray) (p : Nat) (h : p < s.size) : fr ((nums s).drop p) = if !vis (s[p].toNat : Int) then (0, 0) else if (s[p].toNat : Int) == 92 then esc ((nums s).drop p) else ((s[p].toNat : Int), 1) := by
  unfold fr
  rw [getD_drop, Nat.add_zero, nums_at s p h]
end Go.Proofs.Ytdeoembjfdbbkaa
