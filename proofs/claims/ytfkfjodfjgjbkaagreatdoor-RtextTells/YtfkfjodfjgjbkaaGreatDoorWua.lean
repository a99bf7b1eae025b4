/- Texts laid together, in parts: Row Tl Tm Base Own Str Byt Bld Bld2 Txt Fld Rtx Par Nr Ns Nt Nu Nv Bk Np Dsp Dbk Kb. -/
import Derived.WalkKit
import Derived.ProofKit
import Derived.Below
import Derived.OwnWalk
import Derived.Laws.AppendOwn
import Derived.Laws.CopyOwn
import Derived.Deep.AppendSrc
import Derived.Test.YtfkfjodfjgjbkaaGreatDoorRows
import Derived.WalkSpells
import Derived.Deep.QuietTactic
import Derived.BigQuiet
import Derived.Deep.RegionHeld3
import Derived.Laws.BitsAllLaws
import Derived.Laws.IdiomStrings
import Derived.Lib.Builder
import Derived.Lib.UnsafeStr
import Derived.Lib.Bytealg
namespace Go.Proofs.YtfkfjodfjgjbkaaGreatDoor
open Go.ChangeShapes Go.WideShapes Go.ChangeAt Go.RowKit
set_option linter.unusedVariables false
set_option linter.unusedSimpArgs false
/-- From the address on the values lie there. -/
def RdV (w : World) (a : Option Addr) (xs : List Value) : Prop :=
  xs = [] ∨ ∃ b o, a = some ⟨b, o, none⟩ ∧ b < w.heap.size ∧ ∀ i (h : i < xs.length), w.cell? ⟨b, o + i, none⟩ = some xs[i]
theorem RdV.below {w w' : World} {a : Option Addr} {xs : List Value} (h : RdV w a xs) (hb : Below w.heap.size w w') : RdV w' a xs := by
  rcases h with h1 | ⟨b, o, rfl, h1, h2⟩
  · exact .inl h1
  · exact .inr ⟨b, o, rfl, Nat.lt_of_lt_of_le h1 hb.size, fun i hi => (hb.cell (p := ⟨b, o + i, none⟩) h1).trans (h2 i hi)⟩
theorem RdV.cut {w : World} {a : Option Addr} {xs : List Value} (h : RdV w a xs) (p n : Nat) {a' : Option Addr}
    (ha : p < xs.length → ∀ b o, a = some ⟨b, o, none⟩ → a' = some ⟨b, o + p, none⟩) : RdV w a' ((xs.drop p).take n) := by
  by_cases h0 : (xs.drop p).take n = []
  · exact .inl h0
  · rcases h with h1 | ⟨b, o, rfl, h1, h2⟩
    · subst h1; simp at h0
    · have hp : p < xs.length := by
        by_cases hp : p < xs.length
        · exact hp
        · rw [List.drop_eq_nil_of_le (by omega)] at h0; simp at h0
      refine .inr ⟨b, o + p, ha hp b o rfl, h1, fun i hi => ?_⟩
      have hi2 : p + i < xs.length := by simp at hi; omega
      rw [Nat.add_assoc, h2 (p + i) hi2]
      simp
theorem RdV.cells {w : World} {a : Addr} {xs : List Value} (h : RdV w (some a) xs) : ∀ j u, xs[j]? = some u → w.cell? (a.add j) = some u := by
  intro j u hu
  obtain ⟨hj, e⟩ := List.getElem?_eq_some_iff.1 hu
  rcases h with h1 | ⟨b, o, e1, _, h2⟩
  · subst h1; simp at hj
  · cases e1
    rw [Addr.add_lit, h2 j hj, e]
/-- A block that holds just these, and may be written. -/
def BlkV (w : World) (g : Nat) (t : TypeId) (xs : List Value) : Prop := w.heap[g]? = some (.cells xs.toArray t (0, 0))
theorem BlkV.lt {w : World} {g : Nat} {t : TypeId} {xs : List Value} (h : BlkV w g t xs) : g < w.heap.size := (Array.getElem?_eq_some_iff.1 h).1
theorem BlkV.same {w w' : World} {g : Nat} {t : TypeId} {xs : List Value} (h : BlkV w g t xs) (hb : w'.heap[g]? = w.heap[g]?) : BlkV w' g t xs := hb.trans h
theorem BlkV.below {w w' : World} {g : Nat} {t : TypeId} {xs : List Value} (h : BlkV w g t xs) (hb : Below w.heap.size w w') : BlkV w' g t xs := h.same (hb.block g h.lt)
theorem BlkV.cell {w : World} {g : Nat} {t : TypeId} {xs : List Value} (h : BlkV w g t xs) (i : Nat) (hi : i < xs.length) : w.cell? ⟨g, i, none⟩ = some xs[i] := by
  have h' : w.heap[g]? = _ := h
  simp [World.cell?, h', hi]
theorem BlkV.frozen {w : World} {g : Nat} {t : TypeId} {xs : List Value} (h : BlkV w g t xs) (i : Nat) : w.frozen? ⟨g, i, none⟩ = false := by
  have h' : w.heap[g]? = _ := h
  simp [World.frozen?, h']
theorem BlkV.rd {w : World} {g : Nat} {t : TypeId} {xs : List Value} (h : BlkV w g t xs) (n : Nat) : RdV w (some ⟨g, 0, none⟩) (xs.take n) := by
  refine .inr ⟨g, 0, rfl, h.lt, fun i hi => ?_⟩
  have : i < xs.length := by simp at hi; omega
  rw [Nat.zero_add, h.cell i this]
  simp
theorem BlkV.new (w : World) (t : TypeId) (xs : List Value) : BlkV (w.alloc (.cells xs.toArray t)) w.heap.size t xs := heap_alloc_new _ _
theorem BlkV.stored {w : World} {g : Nat} {t : TypeId} {xs : List Value} (h : BlkV w g t xs) (i : Nat) (x : Value) : BlkV (w.setCell ⟨g, i, none⟩ x) g t (xs.set i x) := by
  have hg := h.lt
  have h1 : w.heap[g]? = _ := h
  have e : w.heap[g] = .cells xs.toArray t (0, 0) := by
    rw [Array.getElem?_eq_getElem hg] at h1; exact Option.some.inj h1
  unfold BlkV
  simp [World.setCell, hg, Array.getElem_modify, e]
theorem BlkV.cellsSet : ∀ (vs : List Value) (o : Nat) {w : World} {g : Nat} {t : TypeId} {xs : List Value}, BlkV w g t xs → o + vs.length ≤ xs.length →
    BlkV (w.setCells g o vs) g t (xs.take o ++ vs ++ xs.drop (o + vs.length)) ∧ w.grownBy (w.setCells g o vs) (some g)
  | [], o, w, g, t, xs, h, _ => ⟨by simpa [World.setCells] using h, World.grownBy.refl _ _⟩
  | v :: r, o, w, g, t, xs, h, hl => by
    have hl' : o + 1 + r.length ≤ (xs.set o v).length := by simp at hl ⊢; omega
    obtain ⟨h1, h2⟩ := BlkV.cellsSet r (o + 1) (h.stored o v) hl'
    have e1 : (xs.set o v).take (o + 1) ++ r ++ (xs.set o v).drop (o + 1 + r.length) = xs.take o ++ (v :: r) ++ xs.drop (o + (v :: r).length) := by
      have ho : o < xs.length := by simp at hl; omega
      have ht : (xs.set o v).take (o + 1) = xs.take o ++ [v] := by
        rw [List.take_succ_eq_append_getElem (by simpa using ho), List.take_set_of_le (Nat.le_refl _)]
        simp
      have hd : (xs.set o v).drop (o + 1 + r.length) = xs.drop (o + (v :: r).length) := by
        rw [List.drop_set_of_lt (by omega)]
        congr 1
        simp; omega
      rw [ht, hd]
      simp
    rw [e1] at h1
    refine ⟨h1, ?_⟩
    have h0 : w.grownBy (w.setCell ⟨g, o, none⟩ v) (some g) := ⟨rfl, rfl, rfl, by simp [World.setCell], fun k _ hk => Below.heap_setCell _ _ _ _ (fun e => hk (by simp [e]))⟩
    exact ⟨h2.os.trans h0.os, h2.tape.trans h0.tape, h2.output.trans h0.output, Nat.le_trans h0.size h2.size, fun k hk hne => (h2.block k (Nat.lt_of_lt_of_le hk h0.size) hne).trans (h0.block k hk hne)⟩
/-- A list in a block of its own, from the block B on: n of them, the block's whole cells are xs. -/
def OwnV (B : Nat) (w : World) (t : TypeId) (v : Value) (n : Nat) (xs : List Value) : Prop :=
  (v = .slice none 0 0 ∧ n = 0 ∧ xs = []) ∨
  ∃ g, v = .slice (some ⟨g, 0, none⟩) n xs.length ∧ B ≤ g ∧ BlkV w g t xs ∧ n ≤ xs.length ∧ xs.length ≤ maxLen
theorem OwnV.keep {B : Nat} {w w' : World} {t : TypeId} {v : Value} {n : Nat} {xs : List Value} (h : OwnV B w t v n xs) (hb : ∀ g, v.ownBlock = some g → g < w.heap.size → w'.heap[g]? = w.heap[g]?) : OwnV B w' t v n xs := by
  rcases h with h | ⟨g, rfl, h2, h3, h4⟩
  · exact .inl h
  · exact .inr ⟨g, rfl, h2, h3.same (hb g rfl h3.lt), h4⟩
theorem OwnV.below {B : Nat} {w w' : World} {t : TypeId} {v : Value} {n : Nat} {xs : List Value} (h : OwnV B w t v n xs) (hb : Below w.heap.size w w') : OwnV B w' t v n xs := h.keep fun g _ hg => hb.block g hg
theorem OwnV.mono {B B' : Nat} {w : World} {t : TypeId} {v : Value} {n : Nat} {xs : List Value} (h : OwnV B w t v n xs) (hB : B' ≤ B) : OwnV B' w t v n xs := by
  rcases h with h | ⟨g, h1, h2, h3⟩
  · exact .inl h
  · exact .inr ⟨g, h1, Nat.le_trans hB h2, h3⟩
theorem OwnV.lt {B : Nat} {w : World} {t : TypeId} {v : Value} {n : Nat} {xs : List Value} (h : OwnV B w t v n xs) : ∀ g, v.ownBlock = some g → B ≤ g := by
  intro g hg
  rcases h with ⟨rfl, _⟩ | ⟨g', rfl, h2, _⟩
  · cases hg
  · have : g' = g := Option.some.inj hg
    omega
theorem OwnV.shape {B : Nat} {w : World} {t : TypeId} {v : Value} {n : Nat} {xs : List Value} (h : OwnV B w t v n xs) : ∃ ao, v = .slice ao n xs.length ∧ (ao = none → xs.length = 0) := by
  rcases h with ⟨rfl, rfl, rfl⟩ | ⟨g, rfl, _⟩
  · exact ⟨none, rfl, fun _ => rfl⟩
  · exact ⟨_, rfl, fun h => by cases h⟩
theorem OwnV.le {B : Nat} {w : World} {t : TypeId} {v : Value} {n : Nat} {xs : List Value} (h : OwnV B w t v n xs) : n ≤ xs.length ∧ xs.length ≤ maxLen := by
  rcases h with ⟨_, rfl, rfl⟩ | ⟨g, _, _, _, h4, h5⟩
  · exact ⟨Nat.le_refl _, Nat.zero_le _⟩
  · exact ⟨h4, h5⟩
theorem OwnV.rd {B : Nat} {w : World} {t : TypeId} {ao : Option Addr} {n c : Nat} {xs : List Value} (h : OwnV B w t (.slice ao n c) n xs) (m : Nat) : RdV w ao (xs.take m) := by
  rcases h with ⟨_, _, rfl⟩ | ⟨g, e, _, h3, _⟩
  · exact .inl (by simp)
  · have : ao = some ⟨g, 0, none⟩ := by injection e
    rw [this]; exact h3.rd m
theorem OwnV.nil (B : Nat) (w : World) (t : TypeId) : OwnV B w t (.slice none 0 0) 0 [] := .inl ⟨rfl, rfl, rfl⟩
/-- A list's source: what is appended. -/
theorem src_of {P : Program} {w : World} {tx e' : TypeId} (hk : P.underlying tx = some (.slice e')) {ao : Option Addr} {m c : Nat} {news : List Value} (hr : RdV w ao news) (hl : news.length = m) (h1 : ∀ u ∈ news, u.oneCell' = true) : Src P 1 tx (.slice ao m c) m news w := by
  cases ao with
  | none =>
    have hn : news = [] := by
      rcases hr with h | ⟨b, o, h, _⟩
      · exact h
      · cases h
    subst hn
    subst hl
    exact Src.ofNil w hk c
  | some a => exact Src.ofSlice w hk a m c news (by simp [hl]) hr.cells h1
theorem zeros_eq1 (z : Value) (hz : z.cells = #[z]) (k : Nat) : Builtin.zeroCells z.cells k = (List.replicate k z).toArray := by
  rw [hz]
  apply Array.ext
  · simp [Builtin.zeroCells]
  · intro i h1 h2
    simp [Builtin.zeroCells]
    have : i % 1 = 0 := by omega
    simp [this]
/-- What is known of an element's type. -/
structure ElemTy (P : Program) (t e : TypeId) (z : Value) (bt : Nat) : Prop where
  ht : P.underlying t = some (.slice e)
  hi : (P.info? e).map (fun i => (i.zero, i.size, i.bytes)) = some (some z, 1, bt)
  hz : z.cells = #[z]
theorem run_append_row {P : Program} {t e : TypeId} {z : Value} {bt : Nat} (T : ElemTy P t e z bt) (w : World) (B : Nat) (tx ty : TypeId) (v : Value) (n : Nat) (xs : List Value) (hown : OwnV B w e v n xs)
    (x : Value) (m : Nat) (news : List Value) (hs : Src P 1 tx x m news w) (hb : (n + m) * bt ≤ 140737488355328) (h63 : n + m ≤ maxLen) (hB : B ≤ w.heap.size) :
    ∃ v' w' xs', (Builtin.append_ #[t, tx] ty #[v, x]).run P w = .ok v' w' ∧ OwnV B w' e v' (n + m) xs' ∧ xs'.take (n + m) = xs.take n ++ news ∧ w.grownBy w' v.ownBlock ∧ (∀ Q : Value → Prop, Q z → (∀ u ∈ xs, Q u) → (∀ u ∈ news, Q u) → ∀ u ∈ xs', Q u) ∧ (n + m ≤ xs.length → xs'.length = xs.length) := by
  obtain ⟨i, hi, hz0, hz1, hz2⟩ := info_parts T.hi
  have hs' : Src P i.size tx x m news w := by rw [hz1]; exact hs
  have hnl : news.length = m := by simpa using hs.newsLen
  have grow : ∀ (base : Option Addr) (old : Nat), v = .slice base n old → old < n + m → (Builtin.firstCells i.size n (.slice base n old)).run P w.drew = .ok (xs.take n).toArray w.drew → (xs.take n).length = n → (n + m ≤ xs.length → False) →
      ∃ v' w' xs', (Builtin.append_ #[t, tx] ty #[v, x]).run P w = .ok v' w' ∧ OwnV B w' e v' (n + m) xs' ∧ xs'.take (n + m) = xs.take n ++ news ∧ w.grownBy w' v.ownBlock ∧ (∀ Q : Value → Prop, Q z → (∀ u ∈ xs, Q u) → (∀ u ∈ news, Q u) → ∀ u ∈ xs', Q u) ∧ (n + m ≤ xs.length → xs'.length = xs.length) := by
    intro base old hv ho hold htl hno
    have hge := grownCap_ge w (n + m) old e
    have hle := grownCap_le_maxLen w (n + m) old e h63
    have hr' := run_append_grow_src (P := P) w t tx ty e i z T.ht hi hz0 base n old (xs.take n) hold x m news hs' ho (by simp only [maxLen] at h63; omega) (growslice_fits ho (by rw [hz2]; exact hb))
    rw [zeros_eq1 z T.hz] at hr'
    have e1 : ((xs.take n ++ news).toArray ++ (List.replicate (grownCap w (n + m) old e - (n + m)) z).toArray) = (xs.take n ++ news ++ List.replicate (grownCap w (n + m) old e - (n + m)) z).toArray := by simp
    rw [e1] at hr'
    have hl : (xs.take n ++ news ++ List.replicate (grownCap w (n + m) old e - (n + m)) z).length = grownCap w (n + m) old e := by
      simp only [List.length_append, htl, hnl, List.length_replicate]; omega
    rw [hv]
    refine ⟨_, _, xs.take n ++ news ++ List.replicate (grownCap w (n + m) old e - (n + m)) z, hr', .inr ⟨w.heap.size, by rw [hl], hB, heap_alloc_new w.drew _, by rw [hl]; exact hge, by rw [hl]; exact hle⟩, ?_, ⟨rfl, rfl, rfl, by simp, fun k hk _ => Below.heap_alloc w.drew _ k hk⟩, ?_, fun h => (hno h).elim⟩
    · rw [List.take_append_of_le_length (by simp only [List.length_append, htl, hnl]; omega)]
      exact List.take_of_length_le (by simp only [List.length_append, htl, hnl]; omega)
    · intro Q qz qx qn u hu
      simp only [List.mem_append, List.mem_replicate] at hu
      rcases hu with (hu | hu) | ⟨_, rfl⟩
      · exact qx u (List.mem_of_mem_take hu)
      · exact qn u hu
      · exact qz
  rcases hown with ⟨rfl, rfl, rfl⟩ | ⟨g, rfl, hBg, hblk, hn, hm⟩
  · by_cases hm0 : m = 0
    · subst hm0
      have hnews : news = [] := List.eq_nil_of_length_eq_zero hnl
      subst hnews
      refine ⟨.slice none 0 0, w, [], ?_, .inl ⟨rfl, rfl, rfl⟩, by simp, World.grownBy.refl _ _, (fun Q _ _ _ u hu => nomatch hu), fun _ => rfl⟩
      rcases hs'.kind with ⟨e', hk⟩ | hk <;> simp [Builtin.append_, run_underlying T.ht, run_underlying hk, sizeOf, typeInfo, hi, hs'.len, hs'.cells]
    · exact grow none 0 rfl (by omega) (run_firstCells_none w.drew i.size 0 0 0) (by simp) (fun h => by simp at h; omega)
  · by_cases hroom : n + m ≤ xs.length
    · have hc : ∀ j, j < news.length → (w.cell? ⟨g, 0 + n * i.size + j, none⟩).isSome = true := by
        intro j hj
        have h2 : 0 + n * i.size + j < xs.length := by rw [hz1]; omega
        rw [hblk.cell _ h2]; rfl
      have hf : ∀ j, j < news.length → w.frozen? ⟨g, 0 + n * i.size + j, none⟩ = false := fun j _ => hblk.frozen _
      have hr' := run_append_room_src (P := P) w t tx ty e i T.ht hi g 0 n xs.length x m news hs' hroom hc hf
      obtain ⟨hset, hgr⟩ : BlkV (w.setCells g (0 + n * i.size) news) g e (xs.take n ++ news ++ xs.drop (n + m)) ∧ w.grownBy (w.setCells g (0 + n * i.size) news) (some g) := by
        have := BlkV.cellsSet news n hblk (by omega)
        rw [hnl] at this
        rw [hz1, Nat.mul_one, Nat.zero_add]
        exact this
      have hlen : (xs.take n ++ news ++ xs.drop (n + m)).length = xs.length := by simp [hnl]; omega
      refine ⟨_, _, xs.take n ++ news ++ xs.drop (n + m), hr', .inr ⟨g, by rw [hlen], hBg, hset, by rw [hlen]; exact hroom, by rw [hlen]; exact hm⟩, ?_, ?_, ?_, fun _ => hlen⟩
      · rw [List.take_append_of_le_length (by simp [hnl]; omega)]
        exact List.take_of_length_le (by simp [hnl]; omega)
      · exact hgr
      · intro Q qz qx qn u hu
        simp only [List.mem_append] at hu
        rcases hu with (hu | hu) | hu
        · exact qx u (List.mem_of_mem_take hu)
        · exact qn u hu
        · exact qx u (List.mem_of_mem_drop hu)
    · refine grow (some ⟨g, 0, none⟩) xs.length rfl (by omega) ?_ (by simp; omega) (fun h => hroom h)
      have := run_firstCells_some (P := P) w.drew i.size n ⟨g, 0, none⟩ n xs.length (xs.take n) (by rw [hz1]; simp; omega) (fun j u hu => (hblk.below (Below.refl _ _).drew).rd n |>.cells j u hu)
      exact this
/-- An append, as a step of a walk. -/
theorem wpList_append_row {P : Program} {t e : TypeId} {z : Value} {bt : Nat} (T : ElemTy P t e z bt) (w : World) {ops : Array Oper} {rest : List Oper} {o : Oper} {a : Act} {Q : Exit → Act → World → Prop} (hgd : o.guard = none) (s x : Operand) (tx : TypeId)
    (ho : o.op = .call { callee := .builtin .append, args := #[s, x], argTypes := #[t, tx] }) (B : Nat) (v : Value) (n : Nat) (xs : List Value) (hs : a.eval s = v) (hown : OwnV B w e v n xs)
    (xv : Value) (m : Nat) (news : List Value) (hx : a.eval x = xv) (hsrc : Src P 1 tx xv m news w) (hb : (n + m) * bt ≤ 140737488355328) (h63 : n + m ≤ maxLen) (hB : B ≤ w.heap.size)
    (h : ∀ v' w' xs', Hid (OwnV B w' e v' (n + m) xs') → Hid (xs'.take (n + m) = xs.take n ++ news) → w.grownBy w' v.ownBlock → Hid ((∀ Q : Value → Prop, Q z → (∀ u ∈ xs, Q u) → (∀ u ∈ news, Q u) → ∀ u ∈ xs', Q u) ∧ (n + m ≤ xs.length → xs'.length = xs.length)) → wpList P ops Q rest (a.put o.dst v') w') : wpList P ops Q (o :: rest) a w := by
  refine wpList_plain hgd fun K hK => ?_
  obtain ⟨v', w', xs', hrun, h2, h3, h4, h5⟩ := run_append_row T w B tx o.type v n xs hown xv m news hsrc hb h63 hB
  unfold Oper.wp execOp
  simp only [ho, resolve, invoke, builtin, Sem.run_bind, Sem.run_pure, Result.andThen_ok, List.map_toArray, List.map_cons, List.map_nil, hs, hx, hrun]
  exact hK _ _ (h v' w' xs' h2 h3 h4 h5)
theorem BlkV.row {w : World} {g : Nat} {t : TypeId} {xs : List Value} (h : BlkV w g t xs) (ys : List Value) : BlkV (w.setRow g ys.toArray) g t ys := setRow_heap w g _ _ t _ h
end Go.Proofs.YtfkfjodfjgjbkaaGreatDoor
namespace Go.Proofs.YtfkfjodfjgjbkaaGreatDoor
open Go.ChangeShapes Go.WideShapes Go.ChangeAt Go.RowKit
set_option linter.unusedVariables false
set_option linter.unusedSimpArgs false
theorem tyT : ElemTy Tryz.prog 26 9 (.string ⟨#[]⟩) 16 := ⟨Tryz.underlying26, by kernel_rfl, rfl⟩
/-- Texts as values. -/
def tv (ss : List ByteArray) : List Value := ss.map Value.string
theorem tv_len (ss : List ByteArray) : (tv ss).length = ss.length := by simp [tv]
theorem tv_at (ss : List ByteArray) (i : Nat) (h : i < (tv ss).length) : (tv ss)[i] = .string (ss[i]'(by rw [← tv_len]; exact h)) := by simp [tv]
theorem tv_one (ss : List ByteArray) : ∀ u ∈ tv ss, u.oneCell' = true := by
  intro u hu
  simp only [tv, List.mem_map] at hu
  obtain ⟨s, _, rfl⟩ := hu
  rfl
theorem tv_append (a b : List ByteArray) : tv (a ++ b) = tv a ++ tv b := by simp [tv]
theorem tv_take (a : List ByteArray) (n : Nat) : (tv a).take n = tv (a.take n) := by simp [tv, List.map_take]
theorem tv_drop (a : List ByteArray) (n : Nat) : (tv a).drop n = tv (a.drop n) := by simp [tv, List.map_drop]
/-- Texts that can be read at an address. -/
def RdT (w : World) (a : Option Addr) (ss : List ByteArray) : Prop := RdV w a (tv ss)
theorem RdT.below {w w' : World} {a : Option Addr} {ss : List ByteArray} (h : RdT w a ss) (hb : Below w.heap.size w w') : RdT w' a ss := RdV.below h hb
theorem RdT.at {w : World} {a : Option Addr} {ss : List ByteArray} (h : RdT w a ss) (i : Nat) (hi : i < ss.length) : ∃ b o, a = some ⟨b, o, none⟩ ∧ b < w.heap.size ∧ w.cell? ⟨b, o + i, none⟩ = some (.string ss[i]) := by
  rcases h with h | ⟨b, o, rfl, h1, h2⟩
  · have := congrArg List.length h
    rw [tv_len] at this
    simp at this
    subst this
    simp at hi
  · refine ⟨b, o, rfl, h1, ?_⟩
    rw [h2 i (by rw [tv_len]; exact hi), tv_at]
set_option maxRecDepth 100000 in
set_option maxHeartbeats 1000000 in
theorem sameT_yes (a b : Option Addr) (n c d : Nat) (ss : List ByteArray) (w : World) (hr : RdT w a ss) (hr' : RdT w b ss) (hl : ss.length = n) (hn : n ≤ 9223372036854775807) :
    Calls Tryz.prog 17 #[.slice a n c, .slice b n d] w fun e w' => e = .returned (.bool true) ∧ Hid (Below w.heap.size w w') := by
  have HR : Hid (RdT w a ss ∧ RdT w b ss) := ⟨hr, hr'⟩
  have HL : Hid (ss.length = n) := hl
  clear hr hr' hl
  go_enter Tryz.func17, Tryz.ntmps17
  go_wp2_with fail
  go_loopw [5] (fun x wr => ∃ k : Nat, k ≤ n ∧ x = .int .i64 k ∧ Hid (Below w.heap.size w wr)) (fun x _ => n - (intOf x).toNat)
  case atStart => exact ⟨0, Nat.zero_le _, rfl, Below.refl _ _⟩
  case round =>
    obtain ⟨k, hk, rfl, HB⟩ := hrel
    by_cases hlt : k < n
    · have hlt' : (k : Int) < (n : Int) := by omega
      have hks : k < ss.length := by rw [HL.out]; exact hlt
      obtain ⟨b1, o1, rfl, l1, c1⟩ := (HR.out.1.below HB.out).at k hks
      obtain ⟨b2, o2, rfl, l2, c2⟩ := (HR.out.2.below HB.out).at k hks
      generalize ss[k] = s at *
      go_wp2_with fail
      go_quiet (fail)
      have HB2 : Hid (Below w.heap.size w (wr.drewN nq)) := HB.out.trans ⟨rfl, rfl, rfl, Nat.le_refl _, fun _ _ => rfl⟩
      clear c1 c2
      generalize wr.drewN nq = W2 at *
      go_wp2
      exact ⟨⟨k + 1, by omega, by go_num, HB2⟩, by simp [intOf]; omega⟩
    · have hge : (n : Int) ≤ (k : Int) := by omega
      go_wp2
      go_ret
      exact ⟨rfl, HB.out⟩
/-- The mark behind a list of texts that is lent. -/
def mk : ByteArray := ⟨#[108, 101, 110, 116]⟩
/-- What writing over a text makes of it. -/
def bang (s : ByteArray) : ByteArray := s ++ ⟨#[33]⟩
def overT (ss : List ByteArray) (k : Nat) : List ByteArray := (ss.take k).map bang ++ ss.drop k
theorem overT_len (ss : List ByteArray) (k : Nat) : (overT ss k).length = ss.length := by simp [overT]; omega
theorem overT_at (ss : List ByteArray) (k : Nat) (h : k < ss.length) : (tv (overT ss k))[k]? = some (.string ss[k]) := by
  have e : ((ss.take k).map bang).length = k := by simp; omega
  simp [tv, overT]
  rw [List.getElem?_append_right (by simp; omega)]
  simp [show min k ss.length = k by omega]
theorem overT_step (ss : List ByteArray) (k : Nat) (h : k < ss.length) : (tv (overT ss k)).set k (.string (bang ss[k])) = tv (overT ss (k + 1)) := by
  have e : ((ss.take k).map bang).length = k := by simp; omega
  unfold overT
  rw [List.take_succ_eq_append_getElem h, List.map_append, List.drop_eq_getElem_cons h]
  simp only [tv_append]
  rw [List.set_append_right _ _ (by rw [tv_len, e]; exact Nat.le_refl _), tv_len, e, Nat.sub_self, List.append_assoc]
  rfl
set_option maxRecDepth 100000 in
set_option maxHeartbeats 1000000 in
theorem overT_blk (g n c : Nat) (ss : List ByteArray) (w : World) (hb : BlkV w g 9 (tv ss)) (hl : ss.length = c) (hn : n ≤ c) (hm : c ≤ maxLen) (hz : ∀ s ∈ ss, s.size ≤ 1000000000000) :
    Calls Tryz.prog 20 #[.slice (some ⟨g, 0, none⟩) n c] w fun e w' => e = .returned (.tuple #[]) ∧ Hid (BlkV w' g 9 (tv (ss.map bang)) ∧ w.grownBy w' (some g) ∧ w'.heap.size = w.heap.size) := by
  have HB : Hid (BlkV w g 9 (tv ss)) := hb
  have HL : Hid (ss.length = c) := hl
  clear hb hl
  unfold maxLen at hm
  go_enter Tryz.func20, Tryz.ntmps20
  go_wp2
  go_loopw [3] (fun i wr => ∃ k : Nat, k ≤ c ∧ i = .int .i64 k ∧ Hid (BlkV wr g 9 (tv (overT ss k)) ∧ w.grownBy wr (some g) ∧ wr.heap.size = w.heap.size)) (fun i _ => c - (intOf i).toNat)
  case atStart => exact ⟨0, by omega, rfl, by simpa [overT] using HB.out, World.grownBy.refl _ _, rfl⟩
  case round =>
    obtain ⟨k, hk, rfl, HW⟩ := hrel
    by_cases hlt : k < c
    · have hks : k < ss.length := by rw [HL.out]; exact hlt
      have hc := HW.out.1.cell k (by rw [tv_len, overT_len]; exact hks)
      have hat := overT_at ss k hks
      rw [List.getElem?_eq_getElem (by rw [tv_len, overT_len]; exact hks)] at hat
      rw [Option.some.inj hat] at hc
      have hf := HW.out.1.frozen k
      have h1 : (k : Int) < (c : Int) := by omega
      have HS : Hid (BlkV (wr.setCell ⟨g, k, none⟩ (.string (bang ss[k]))) g 9 (tv (overT ss (k + 1)))) := by
        have := HW.out.1.stored k (.string (bang ss[k]))
        rw [overT_step ss k hks] at this
        exact this
      clear hat
      have hsk : ss[k].size ≤ 1000000000000 := hz _ (List.getElem_mem hks)
      generalize ss[k] = s at *
      go_wp2
      refine ⟨⟨k + 1, by omega, by go_num, HS.out, ?_, ?_⟩, by simp [intOf]; omega⟩
      · obtain ⟨_, hG, hz⟩ := HW.out
        exact ⟨hG.os, hG.tape, hG.output, by rw [← hz]; simp [World.setCell], fun j hj hne => (Below.heap_setCell _ _ _ j (fun e => hne (by rw [e]))).trans (hG.block j hj hne)⟩
      · rw [← HW.out.2.2]; simp [World.setCell]
    · obtain rfl : k = c := by omega
      go_wp2
      go_end0
      have h := HW.out
      have e : overT ss k = ss.map bang := by
        unfold overT
        rw [List.take_of_length_le (by rw [HL.out]; exact Nat.le_refl _), List.drop_eq_nil_of_le (by rw [HL.out]; exact Nat.le_refl _), List.append_nil]
      rw [e] at h
      exact ⟨rfl, h⟩
end Go.Proofs.YtfkfjodfjgjbkaaGreatDoor
namespace Go.Proofs.YtfkfjodfjgjbkaaGreatDoor
open Go.ChangeShapes Go.WideShapes Go.ChangeAt Go.RowKit
set_option linter.unusedVariables false
set_option linter.unusedSimpArgs false
/-- A text of at most M bytes, as a value. -/
def QS (M : Nat) (u : Value) : Prop := ∃ s : ByteArray, u = .string s ∧ s.size ≤ M
theorem tv_of {M : Nat} : ∀ xs : List Value, (∀ u ∈ xs, QS M u) → ∃ ys, xs = tv ys ∧ ∀ s ∈ ys, s.size ≤ M
  | [], _ => ⟨[], rfl, by simp⟩
  | x :: xs, h => by
    obtain ⟨ys, e1, e2⟩ := tv_of xs (fun u hu => h u (by simp [hu]))
    obtain ⟨s, rfl, hs⟩ := h x (by simp)
    refine ⟨s :: ys, by rw [e1]; rfl, fun q hq => ?_⟩
    rcases List.mem_cons.1 hq with rfl | hq
    · exact hs
    · exact e2 q hq
theorem qs_tv {M : Nat} {ss : List ByteArray} (h : ∀ s ∈ ss, s.size ≤ M) : ∀ u ∈ tv ss, QS M u := by
  intro u hu
  simp only [tv, List.mem_map] at hu
  obtain ⟨s, hs, rfl⟩ := hu
  exact ⟨s, rfl, h s hs⟩
theorem tv_inj : ∀ {a b : List ByteArray}, tv a = tv b → a = b
  | [], [], _ => rfl
  | [], _ :: _, h => by simp [tv] at h
  | _ :: _, [], h => by simp [tv] at h
  | x :: a, y :: b, h => by
    simp only [tv, List.map_cons, List.cons.injEq, Value.string.injEq] at h
    rw [h.1, tv_inj (a := a) (b := b) h.2]
/-- A list of texts in a block of its own. -/
def OwnT (B : Nat) (w : World) (v : Value) (n : Nat) (ss : List ByteArray) (M : Nat) : Prop := OwnV B w 9 v n (tv ss) ∧ ∀ s ∈ ss, s.size ≤ M
theorem OwnT.below {B : Nat} {w w' : World} {v : Value} {n : Nat} {ss : List ByteArray} {M : Nat} (h : OwnT B w v n ss M) (hb : Below w.heap.size w w') : OwnT B w' v n ss M := ⟨h.1.below hb, h.2⟩
theorem OwnT.mono {B B' : Nat} {w : World} {v : Value} {n : Nat} {ss : List ByteArray} {M : Nat} (h : OwnT B w v n ss M) (hB : B' ≤ B) : OwnT B' w v n ss M := ⟨h.1.mono hB, h.2⟩
theorem OwnT.nil (B : Nat) (w : World) (M : Nat) : OwnT B w (.slice none 0 0) 0 [] M := ⟨OwnV.nil B w 9, by simp⟩
theorem OwnT.rd {B : Nat} {w : World} {ao : Option Addr} {n c : Nat} {ss : List ByteArray} {M : Nat} (h : OwnT B w (.slice ao n c) n ss M) (m : Nat) : RdT w ao (ss.take m) := by
  have := h.1.rd m
  rw [tv_take] at this
  exact this
theorem OwnT.shape {B : Nat} {w : World} {v : Value} {n : Nat} {ss : List ByteArray} {M : Nat} (h : OwnT B w v n ss M) : ∃ ao, v = .slice ao n ss.length ∧ (ao = none → ss.length = 0) := by
  obtain ⟨ao, h1, h2⟩ := h.1.shape
  rw [tv_len] at h1 h2
  exact ⟨ao, h1, h2⟩
theorem OwnT.le {B : Nat} {w : World} {v : Value} {n : Nat} {ss : List ByteArray} {M : Nat} (h : OwnT B w v n ss M) : n ≤ ss.length ∧ ss.length ≤ maxLen := by
  have := h.1.le
  rw [tv_len] at this
  exact this
theorem wpList_append_T {t : TypeId} (T : ElemTy Tryz.prog t 9 (.string ⟨#[]⟩) 16) (w : World) {ops : Array Oper} {rest : List Oper} {o : Oper} {a : Act} {Q : Exit → Act → World → Prop} (hgd : o.guard = none) (s x : Operand) (tx e' : TypeId) (hk : Tryz.prog.underlying tx = some (.slice e'))
    (ho : o.op = .call { callee := .builtin .append, args := #[s, x], argTypes := #[t, tx] }) (B : Nat) (v : Value) (n : Nat) (ss : List ByteArray) (M : Nat) (hs : a.eval s = v) (hown : OwnT B w v n ss M)
    (ao : Option Addr) (m c : Nat) (ns : List ByteArray) (hx : a.eval x = .slice ao m c) (hr : RdT w ao ns) (hl : ns.length = m) (hM : ∀ s ∈ ns, s.size ≤ M) (hb : n + m ≤ 8796093022000) (hB : B ≤ w.heap.size)
    (h : ∀ v' w' ys, Hid (OwnT B w' v' (n + m) ys M) → Hid (ys.take (n + m) = ss.take n ++ ns) → w.grownBy w' v.ownBlock → wpList Tryz.prog ops Q rest (a.put o.dst v') w') : wpList Tryz.prog ops Q (o :: rest) a w := by
  refine wpList_append_row T w hgd s x tx ho B v n (tv ss) hs hown.1 (.slice ao m c) m (tv ns) hx (src_of hk hr (by rw [tv_len]; exact hl) (tv_one ns)) (by omega) (by simp only [maxLen]; omega) hB ?_
  intro v' w' xs' h1 h2 h3 h4
  obtain ⟨ys, rfl, hys⟩ := tv_of (M := M) xs' (h4.out.1 (QS M) ⟨⟨#[]⟩, rfl, Nat.zero_le _⟩ (qs_tv hown.2) (qs_tv hM))
  refine h v' w' ys ⟨h1.out, hys⟩ ?_ h3
  have h2' := h2.out
  rw [tv_take, tv_take, ← tv_append] at h2'
  exact tv_inj h2'
theorem one_rdT (w : World) (s : ByteArray) : RdT (w.alloc (.cells #[.string s] 9)) (some ⟨w.heap.size, 0, none⟩) [s] := by
  refine .inr ⟨w.heap.size, 0, rfl, by simp, fun i hi => ?_⟩
  have : i = 0 := by simp [tv] at hi; omega
  subst this
  simp [go_sem, tv]
theorem emptyT (w : World) (M : Nat) : OwnT w.heap.size (w.alloc (.cells #[] 9)) (.slice (some ⟨w.heap.size, 0, none⟩) 0 0) 0 [] M :=
  ⟨.inr ⟨w.heap.size, rfl, Nat.le_refl _, heap_alloc_new _ _, Nat.le_refl _, Nat.zero_le _⟩, by simp⟩
def CopyPost (ss : List ByteArray) (M : Nat) (w : World) (e : Ending) (w' : World) : Prop :=
  ∃ v ys, e = .returned v ∧ Hid (OwnT w.heap.size w' v ss.length ys M ∧ ys.take ss.length = ss ∧ Below w.heap.size w w')
set_option maxRecDepth 100000 in
set_option maxHeartbeats 800000 in
theorem copyT_any (a : Option Addr) (cap len : Nat) (ss : List ByteArray) (M : Nat) (w : World) (hr : RdT w a ss) (hl : ss.length = len) (hM : ∀ s ∈ ss, s.size ≤ M) (hm : len ≤ 8796093022000) :
    Calls Tryz.prog 34 #[.slice a len cap] w (CopyPost ss M w) := by
  have HR : Hid (RdT w a ss ∧ ∀ s ∈ ss, s.size ≤ M) := ⟨hr, hM⟩
  have HL : Hid (ss.length = len) := hl
  clear hr hl hM
  have hb1 : Below w.heap.size w (w.alloc (.cells #[] 9)) := (Below.refl _ _).alloc (Nat.le_refl _) _
  go_enter Tryz.func34, Tryz.ntmps34
  go_wp2_with (at_builtin; refine wpList_append_T tyT _ rfl _ _ 26 9 Tryz.underlying26 rfl w.heap.size _ 0 [] M rfl (emptyT w M) a len cap ss rfl (HR.out.1.below hb1) HL.out HR.out.2 (by omega) (by simp) ?_; intro v' w' ys hO hT hG)
  go_ret
  refine ⟨v', ys, rfl, ?_, ?_, ?_⟩
  · have h := hO.out
    rw [Nat.zero_add, ← HL.out] at h
    exact h
  · have h := hT.out
    rw [Nat.zero_add, ← HL.out] at h
    simpa using h
  · refine hb1.grown hG (by simp) ?_
    intro k hk
    have e : w.heap.size = k := Option.some.inj hk
    omega
set_option maxRecDepth 100000 in
theorem sameN_yes (a b : Option Addr) (n c d : Nat) (ss : List ByteArray) (w : World) (hr : RdT w a ss) (hr' : RdT w b ss) (hl : ss.length = n) (hn : n ≤ 9223372036854775807) :
    Calls Tryz.prog 51 #[.slice a n c, .slice b n d] w fun e w' => e = .returned (.bool true) ∧ Hid (Below w.heap.size w w') := by
  have HX : Hid (Calls Tryz.prog 17 #[.slice a n c, .slice b n d] w fun e w' => e = .returned (.bool true) ∧ Hid (Below w.heap.size w w')) := sameT_yes a b n c d ss w hr hr' hl hn
  clear hr hr' hl
  go_enter Tryz.func51, Tryz.ntmps51
  go_wp2_with fail
  refine HX.out.mono ?_
  rintro e w1 ⟨rfl, H1⟩
  go_wp2
  go_ret
  exact ⟨rfl, H1⟩
set_option maxRecDepth 100000 in
theorem copyN_any (a : Option Addr) (cap len : Nat) (ss : List ByteArray) (M : Nat) (w : World) (hr : RdT w a ss) (hl : ss.length = len) (hM : ∀ s ∈ ss, s.size ≤ M) (hm : len ≤ 8796093022000) :
    Calls Tryz.prog 36 #[.slice a len cap] w (CopyPost ss M w) := by
  have HX : Hid (Calls Tryz.prog 34 #[.slice a len cap] w (CopyPost ss M w)) := copyT_any a cap len ss M w hr hl hM hm
  clear hr hl hM
  go_enter Tryz.func36, Tryz.ntmps36
  go_wp2_with fail
  refine HX.out.mono ?_
  rintro e w1 ⟨v, ys, rfl, H1⟩
  go_wp2
  go_ret
  exact ⟨v, ys, rfl, H1⟩
end Go.Proofs.YtfkfjodfjgjbkaaGreatDoor
namespace Go.Proofs.YtfkfjodfjgjbkaaGreatDoor
open Go.ChangeShapes Go.WideShapes Go.ChangeAt Go.RowKit
/-- From the address on the numbers lie there, each a byte. -/
def Rd (w : World) (a : Option Addr) (zs : List Int) : Prop :=
  (zs = [] ∨ ∃ b o, a = some ⟨b, o, none⟩ ∧ b < w.heap.size ∧ ∀ i, i < zs.length → w.cell? ⟨b, o + i, none⟩ = some (.int .u8 (zs.getD i 0))) ∧ ∀ z ∈ zs, 0 ≤ z ∧ z ≤ 255
theorem Rd.bd {w : World} {a : Option Addr} {zs : List Int} (h : Rd w a zs) (i : Nat) : 0 ≤ zs.getD i 0 ∧ zs.getD i 0 ≤ 255 := by
  by_cases hi : i < zs.length
  · have := h.2 (zs.getD i 0) (by rw [List.getD_eq_getElem?_getD, List.getElem?_eq_getElem hi]; simp)
    exact this
  · rw [List.getD_eq_getElem?_getD, List.getElem?_eq_none (by omega)]; simp
theorem Rd.of_blocks {w w' : World} {a : Option Addr} {zs : List Int} (h : Rd w a zs) (hs : w.heap.size ≤ w'.heap.size) (hb : ∀ b o, a = some ⟨b, o, none⟩ → w'.heap[b]? = w.heap[b]?) : Rd w' a zs := by
  refine ⟨?_, h.2⟩
  rcases h.1 with h1 | ⟨b, o, rfl, h1, h2⟩
  · exact .inl h1
  · refine .inr ⟨b, o, rfl, by omega, fun i hi => ?_⟩
    rw [← h2 i hi]
    exact World.cell?_of_block (w := w) (hb b o rfl)
theorem Rd.below {w w' : World} {a : Option Addr} {zs : List Int} (h : Rd w a zs) (hb : Below w.heap.size w w') : Rd w' a zs := by
  refine ⟨?_, h.2⟩
  rcases h.1 with h1 | ⟨b, o, rfl, h1, h2⟩
  · exact .inl h1
  · refine .inr ⟨b, o, rfl, Nat.lt_of_lt_of_le h1 hb.size, fun i hi => ?_⟩
    rw [← h2 i hi]
    exact hb.cell (p := ⟨b, o + i, none⟩) h1
theorem Rd.cut {w : World} {a : Option Addr} {zs : List Int} (h : Rd w a zs) (at_ n : Nat) (hn : at_ + n ≤ zs.length) {a' : Option Addr}
    (ha : 0 < n → ∀ b o, a = some ⟨b, o, none⟩ → a' = some ⟨b, o + at_, none⟩) : Rd w a' ((zs.drop at_).take n) := by
  refine ⟨?_, fun z hz => h.2 z (List.mem_of_mem_drop (List.mem_of_mem_take hz))⟩
  by_cases h0 : n = 0
  · left; subst h0; simp
  · rcases h.1 with h1 | ⟨b, o, rfl, h1, h2⟩
    · subst h1; simp at hn; omega
    · refine .inr ⟨b, o + at_, ha (by omega) b o rfl, h1, fun i hi => ?_⟩
      have hi' : i < n := by simp at hi; omega
      have := h2 (at_ + i) (by omega)
      rw [Nat.add_assoc, this]
      congr 2
      simp [List.getD_eq_getElem?_getD, hi', List.getElem?_drop]
/-- The number that bytes are, the first the greatest. -/
def val (zs : List Int) : Int := zs.foldl (fun n c => n * 256 + c) 0
theorem take_snoc (zs : List Int) (k : Nat) (h : k < zs.length) : zs.take (k + 1) = zs.take k ++ [zs.getD k 0] := by
  rw [List.take_succ_eq_append_getElem h]; simp [List.getD_eq_getElem?_getD, List.getElem?_eq_getElem h]
/-- A block that holds just these bytes, and may be written. -/
def Blk (w : World) (g : Nat) (zs : List Int) : Prop :=
  w.heap[g]? = some (.cells (zs.map (Value.int .u8)).toArray 5 (0, 0)) ∧ ∀ z ∈ zs, 0 ≤ z ∧ z ≤ 255
theorem Blk.lt {w : World} {g : Nat} {zs : List Int} (h : Blk w g zs) : g < w.heap.size := by
  have := h.1
  by_cases hg : g < w.heap.size
  · exact hg
  · rw [Array.getElem?_eq_none (by omega)] at this; cases this
theorem Blk.same {w w' : World} {g : Nat} {zs : List Int} (h : Blk w g zs) (hb : w'.heap[g]? = w.heap[g]?) : Blk w' g zs := ⟨hb.trans h.1, h.2⟩
theorem Blk.below {w w' : World} {g : Nat} {zs : List Int} (h : Blk w g zs) (hb : Below w.heap.size w w') : Blk w' g zs := h.same (hb.block g h.lt)
theorem Blk.cell {w : World} {g : Nat} {zs : List Int} (h : Blk w g zs) (i : Nat) (hi : i < zs.length) : w.cell? ⟨g, i, none⟩ = some (.int .u8 (zs.getD i 0)) := by
  simp [World.cell?, h.1, hi]
theorem Blk.frozen {w : World} {g : Nat} {zs : List Int} (h : Blk w g zs) (i : Nat) : w.frozen? ⟨g, i, none⟩ = false := by
  simp [World.frozen?, h.1]
theorem Blk.rd {w : World} {g : Nat} {zs : List Int} (h : Blk w g zs) (n : Nat) : Rd w (some ⟨g, 0, none⟩) (zs.take n) := by
  refine ⟨.inr ⟨g, 0, rfl, h.lt, fun i hi => ?_⟩, fun z hz => h.2 z (List.mem_of_mem_take hz)⟩
  rw [Nat.zero_add, h.cell i (by simp at hi; omega)]
  have : i < n := by simp at hi; omega
  simp [List.getD_eq_getElem?_getD, this]
theorem Rd.drew {w : World} {a : Option Addr} {zs : List Int} (h : Rd w a zs) : Rd w.drew a zs := h.below (Below.refl _ _).drew
theorem Blk.drew {w : World} {g : Nat} {zs : List Int} (h : Blk w g zs) : Blk w.drew g zs := h
end Go.Proofs.YtfkfjodfjgjbkaaGreatDoor
namespace Go.Proofs.YtfkfjodfjgjbkaaGreatDoor
open Go.ChangeShapes Go.WideShapes Go.ChangeAt Go.RowKit
set_option linter.unusedVariables false
set_option linter.unusedSimpArgs false
theorem Tryz.info5 : (Tryz.prog.info? 5).map (fun i => (i.zero, i.size, i.bytes)) = some (some (.int .u8 0), 1, 1) := by kernel_rfl
/-- A list of bytes in a block of its own, from the block B on: n of them, the block's whole cells are zs. -/
def Own (B : Nat) (w : World) (v : Value) (n : Nat) (zs : List Int) : Prop :=
  (v = .slice none 0 0 ∧ n = 0 ∧ zs = []) ∨
  ∃ g, v = .slice (some ⟨g, 0, none⟩) n zs.length ∧ B ≤ g ∧ Blk w g zs ∧ n ≤ zs.length ∧ zs.length ≤ maxLen
theorem zeros_eq (k : Nat) : Builtin.zeroCells (Value.int .u8 0).cells k = ((List.replicate k (0 : Int)).map (Value.int .u8)).toArray := by
  apply Array.ext
  · simp [Builtin.zeroCells, Value.cells]
  · intro i h1 h2
    simp [Builtin.zeroCells, Value.cells]
    have : i % 1 = 0 := by omega
    simp [this]
theorem made_eq (k : Nat) : madeCells (Value.int .u8 0).cells (k * 1) = ((List.replicate k (0 : Int)).map (Value.int .u8)).toArray := by
  apply Array.ext
  · simp [madeCells, Value.cells]
  · intro i h1 h2
    simp [madeCells, Value.cells]
    have : i % 1 = 0 := by omega
    simp [this]
theorem rd_cells {w : World} {x : Addr} {zs : List Int} (h : Rd w (some x) zs) : ∀ j u, (zs.map (Value.int .u8))[j]? = some u → w.cell? (x.add j) = some u := by
  intro j u hu
  have hj : j < zs.length := by simpa using (List.getElem?_eq_some_iff.1 hu).1
  rcases h.1 with h1 | ⟨b, o, e, _, h2⟩
  · subst h1; simp at hj
  · cases e
    rw [Addr.add_lit, h2 j hj, ← hu]
    simp [hj]
theorem run_append_blk (w : World) (B : Nat) (ty : TypeId) (v : Value) (n : Nat) (zs : List Int) (hown : Own B w v n zs)
    (ao : Option Addr) (m c : Nat) (news : List Int) (hr : Rd w ao news) (hl : news.length = m) (hc : ao = none → c = 0) (hb : n + m ≤ 140737488355328) (hB : B ≤ w.heap.size) :
    ∃ v' w' zs', (Builtin.append_ #[27, 27] ty #[v, .slice ao m c]).run Tryz.prog w = .ok v' w' ∧ Own B w' v' (n + m) zs' ∧ zs'.take (n + m) = zs.take n ++ news ∧ w.grownBy w' v.ownBlock := by
  obtain ⟨i, hi, hz0, hz1, hz2⟩ := info_parts Tryz.info5
  cases ao with
  | none =>
    have hnews : news = [] := by
      rcases hr.1 with h1 | ⟨b, o, h, _⟩
      · exact h1
      · cases h
    subst hnews; subst hl
    rw [hc rfl]
    refine ⟨v, w, zs, ?_, hown, by simp, World.grownBy.refl _ _⟩
    rcases hown with ⟨rfl, rfl, rfl⟩ | ⟨g, rfl, hBg, hblk, hn, hm⟩
    · simp [Builtin.append_, run_underlying Tryz.underlying27, sizeOf, typeInfo, hi, Builtin.lenOf, Builtin.firstCells]
    · simp [Builtin.append_, run_underlying Tryz.underlying27, sizeOf, typeInfo, hi, Builtin.lenOf, Builtin.firstCells, hn, storeCells]
  | some a =>
    have hcs := rd_cells hr
    have hml : n + m ≤ maxLen := by simp only [maxLen]; omega
    have hlm : (news.map (Value.int .u8)).length = m * i.size := by rw [hz1]; simp [hl]
    have grown : ∀ (old : Nat), old < n + m → ∀ (row : Option Nat), (n = 0 ∨ n ≤ zs.length) →
        ∃ zs' : List Int, (.cells (((zs.take n).map (Value.int .u8)).toArray ++ (news.map (Value.int .u8)).toArray ++ Builtin.zeroCells (Value.int .u8 0).cells (grownCap w (n + m) old 5 - (n + m))) 5 : Obj) = .cells (zs'.map (Value.int .u8)).toArray 5 (0, 0) ∧
        zs'.length = grownCap w (n + m) old 5 ∧ zs'.take (n + m) = zs.take n ++ news ∧ (∀ z ∈ zs', 0 ≤ z ∧ z ≤ 255) := by
      intro old ho row hn
      have hge := grownCap_ge w (n + m) old 5
      have hzb : ∀ z ∈ zs, 0 ≤ z ∧ z ≤ 255 := by
        rcases hown with ⟨_, _, rfl⟩ | ⟨g, _, _, hblk, _⟩
        · intro z hz; cases hz
        · exact hblk.2
      have htl : (zs.take n).length = n := by
        rcases hn with rfl | hn
        · simp
        · simp; omega
      refine ⟨zs.take n ++ news ++ List.replicate (grownCap w (n + m) old 5 - (n + m)) 0, ?_, ?_, ?_, ?_⟩
      · rw [zeros_eq]; simp
      · simp only [List.length_append, htl, hl, List.length_replicate]; omega
      · rw [List.take_append_of_le_length (by simp only [List.length_append, htl, hl]; omega)]
        exact List.take_of_length_le (by simp only [List.length_append, htl, hl]; omega)
      · intro z hz
        simp only [List.mem_append, List.mem_replicate] at hz
        rcases hz with (hz | hz) | ⟨_, rfl⟩
        · exact hzb z (List.mem_of_mem_take hz)
        · exact hr.2 z hz
        · omega
    have fresh : ∀ (old : Nat), old < n + m → ∀ zs' : List Int, zs'.length = grownCap w (n + m) old 5 → (∀ z ∈ zs', 0 ≤ z ∧ z ≤ 255) →
        Own B (w.drew.alloc (.cells (zs'.map (Value.int .u8)).toArray 5 (0, 0))) (.slice (some ⟨w.heap.size, 0, none⟩) (n + m) (grownCap w (n + m) old 5)) (n + m) zs' := by
      intro old ho zs' hzl hzb
      refine .inr ⟨w.heap.size, by rw [hzl], hB, ⟨heap_alloc_new w.drew _, hzb⟩, ?_, ?_⟩
      · rw [hzl]; exact grownCap_ge w (n + m) old 5
      · rw [hzl]; exact grownCap_le_maxLen w (n + m) old 5 hml
    rcases hown with ⟨rfl, rfl, rfl⟩ | ⟨g, rfl, hBg, hblk, hn, hm⟩
    · by_cases hm0 : m = 0
      · subst hm0
        have hnews : news = [] := List.eq_nil_of_length_eq_zero hl
        subst hnews
        refine ⟨.slice none 0 0, w, [], ?_, .inl ⟨rfl, rfl, rfl⟩, by simp, World.grownBy.refl _ _⟩
        simp [Builtin.append_, run_underlying Tryz.underlying27, sizeOf, typeInfo, hi, Builtin.lenOf, Builtin.firstCells, loadCells, loadCellsFrom]
      · have hr' := run_append_nil (P := Tryz.prog) w 27 ty 5 i _ Tryz.underlying27 hi hz0 a m c (news.map (Value.int .u8)) hlm hcs (by omega) (by omega) (by rw [hz2]; omega)
        obtain ⟨zs', e1, e2, e3, e4⟩ := grown 0 (by omega) none (.inl rfl)
        have hf := fresh 0 (by omega) zs' e2 e4
        simp only [Nat.zero_add, List.take_nil, List.map_nil, List.nil_append, Array.empty_append, List.take_zero] at e1 e2 e3 hf ⊢
        rw [e1] at hr'
        exact ⟨_, _, zs', hr', hf, e3, ⟨rfl, rfl, rfl, by simp, fun k hk _ => Below.heap_alloc w.drew _ k hk⟩⟩
    · by_cases hroom : n + m ≤ zs.length
      · have hr' := run_append_room (P := Tryz.prog) w 27 ty 5 i Tryz.underlying27 hi g n zs.length _ hblk.1 a m c (news.map (Value.int .u8)) hlm hcs (ints_oneCell _ _) hroom (by rw [hz1]; simp [hl]; omega)
        have e : (((zs.map (Value.int .u8)).toArray.toList.take (n * i.size)) ++ news.map (Value.int .u8) ++ (zs.map (Value.int .u8)).toArray.toList.drop (n * i.size + (news.map (Value.int .u8)).length)).toArray = ((zs.take n ++ news ++ zs.drop (n + m)).map (Value.int .u8)).toArray := by
          rw [hz1]; simp [hl]
        rw [e] at hr'
        have hlen : (zs.take n ++ news ++ zs.drop (n + m)).length = zs.length := by simp [hl]; omega
        refine ⟨_, _, zs.take n ++ news ++ zs.drop (n + m), hr', .inr ⟨g, by rw [hlen], hBg, ⟨setRow_heap w g _ _ 5 _ hblk.1, ?_⟩, by rw [hlen]; exact hroom, by rw [hlen]; exact hm⟩, ?_,
          ⟨rfl, rfl, rfl, by simp, fun k _ hk => setRow_other w g k _ (fun e => hk (by simp [Value.ownBlock, e]))⟩⟩
        · intro z hz
          simp only [List.mem_append] at hz
          rcases hz with (hz | hz) | hz
          · exact hblk.2 z (List.mem_of_mem_take hz)
          · exact hr.2 z hz
          · exact hblk.2 z (List.mem_of_mem_drop hz)
        · rw [List.take_append_of_le_length (by simp [hl]; omega)]
          exact List.take_of_length_le (by simp [hl]; omega)
      · have holds : ∀ j u, ((zs.take n).map (Value.int .u8))[j]? = some u → w.cell? ((⟨g, 0, none⟩ : Addr).add j) = some u := rd_cells (hblk.rd n)
        have hr' := run_append_grow (P := Tryz.prog) w 27 ty 5 i _ Tryz.underlying27 hi hz0 ⟨g, 0, none⟩ n zs.length ((zs.take n).map (Value.int .u8)) (by rw [hz1]; simp; omega) holds a m c (news.map (Value.int .u8)) hlm hcs (by omega) (by simp only [maxLen] at hml; omega) (growslice_fits (by omega) (by rw [hz2]; omega))
        obtain ⟨zs', e1, e2, e3, e4⟩ := grown zs.length (by omega) none (.inr hn)
        have hf := fresh zs.length (by omega) zs' e2 e4
        rw [e1] at hr'
        exact ⟨_, _, zs', hr', hf, e3, ⟨rfl, rfl, rfl, by simp, fun k hk _ => Below.heap_alloc w.drew _ k hk⟩⟩
theorem wpList_append_blk (w : World) {ops : Array Oper} {rest : List Oper} {o : Oper} {a : Act} {Q : Exit → Act → World → Prop} (hgd : o.guard = none) (s x : Operand)
    (ho : o.op = .call { callee := .builtin .append, args := #[s, x], argTypes := #[27, 27] }) (B : Nat) (v : Value) (n : Nat) (zs : List Int) (hs : a.eval s = v) (hown : Own B w v n zs)
    (ao : Option Addr) (m c : Nat) (news : List Int) (hx : a.eval x = .slice ao m c) (hr : Rd w ao news) (hl : news.length = m) (hc : ao = none → c = 0) (hb : n + m ≤ 140737488355328) (hB : B ≤ w.heap.size)
    (h : ∀ v' w' zs', Hid (Own B w' v' (n + m) zs') → Hid (zs'.take (n + m) = zs.take n ++ news) → w.grownBy w' v.ownBlock → wpList Tryz.prog ops Q rest (a.put o.dst v') w') : wpList Tryz.prog ops Q (o :: rest) a w := by
  refine wpList_plain hgd fun K hK => ?_
  obtain ⟨v', w', zs', hrun, h2, h3, h4⟩ := run_append_blk w B o.type v n zs hown ao m c news hr hl hc hb hB
  unfold Oper.wp execOp
  simp only [ho, resolve, invoke, builtin, Sem.run_bind, Sem.run_pure, Result.andThen_ok, List.map_toArray, List.map_cons, List.map_nil, hs, hx, hrun]
  exact hK _ _ (h v' w' zs' h2 h3 h4)
/-- 'make([]byte, n)' and 'make([]byte, l, n)'. -/
theorem wpList_make_blk (w : World) {ops : Array Oper} {rest : List Oper} {o : Oper} {a : Act} {Q : Exit → Act → World → Prop} (hgd : o.guard = none) (s x : Operand)
    (ho : o.op = .makeSlice 27 s x) (l n : Nat) (L C : Int) (hs : a.eval s = .int .i64 L) (hx : a.eval x = .int .i64 C) (hL : L = (l : Int)) (hC : C = (n : Int)) (hln : l ≤ n) (hn : n ≤ 281474976710656)
    (h : wpList Tryz.prog ops Q rest (a.put o.dst (.slice (some ⟨w.heap.size, 0, none⟩) l n)) (w.alloc (.cells ((List.replicate n (0 : Int)).map (Value.int .u8)).toArray 5))) : wpList Tryz.prog ops Q (o :: rest) a w := by
  refine wpList_plain hgd fun K hK => ?_
  obtain ⟨i, hi, hz0, hz1, hz2⟩ := info_parts Tryz.info5
  have hrun := run_make (P := Tryz.prog) w 27 5 i _ Tryz.underlying27 hi hz0 .i64 .i64 (l : Int) (n : Int) (by omega) (by omega) (by rw [hz2]; omega) (by omega)
  rw [hz1] at hrun
  simp only [Int.toNat_natCast, made_eq] at hrun
  subst hL
  subst hC
  unfold Oper.wp
  simp only [execOp, ho, hs, hx, Sem.run_bind, hrun, Result.andThen]
  exact hK _ _ h
theorem run_copy_blk (w : World) (ty : TypeId) (g : Nat) (n c : Nat) (zs : List Int) (hblk : Blk w g zs) (ao : Option Addr) (m d : Nat) (news : List Int) (hr : Rd w ao news) (hl : news.length = m) (hmn : m ≤ n) (hn : n ≤ zs.length) (hd : ao = none → d = 0) :
    (Builtin.copy_ #[27, 27] ty #[.slice (some ⟨g, 0, none⟩) n c, .slice ao m d]).run Tryz.prog w = .ok (goInt m) (w.setRow g ((news ++ zs.drop m).map (Value.int .u8)).toArray) := by
  by_cases hm : m = 0
  · subst hm
    have hnews : news = [] := List.eq_nil_of_length_eq_zero hl
    subst hnews
    have := run_copy_none (P := Tryz.prog) w 27 27 ty 5 (some ⟨g, 0, none⟩) ao n c 0 d Tryz.underlying27 (by kernel_rfl) (by simp)
    rw [this]
    simp
    rw [setRow_self w g _ 5 (0, 0) (by simpa using hblk.1)]
  · cases ao with
    | none =>
      rcases hr.1 with h1 | ⟨b, o, h, _⟩
      · subst h1; simp at hl; omega
      · cases h
    | some x =>
      have := run_copy_row (P := Tryz.prog) w 27 27 ty 5 g 0 n c x m d _ 5 (news.map (Value.int .u8)) Tryz.underlying27 (by kernel_rfl) hblk.1 (by simp [hl, Nat.min_eq_left hmn]) (rd_cells hr) (by simp [hl]; omega) (ints_oneCell _ _)
      rw [this]
      simp [hl]
/-- A store of a byte into a block. -/
theorem Blk.stored {w : World} {g : Nat} {zs : List Int} (h : Blk w g zs) (i : Nat) (z : Int) (hz : 0 ≤ z ∧ z ≤ 255) : Blk (w.setCell ⟨g, i, none⟩ (.int .u8 z)) g (zs.set i z) := by
  refine ⟨?_, fun x hx => ?_⟩
  · have hg := h.lt
    have h1 := h.1
    have e : w.heap[g] = .cells (zs.map (Value.int .u8)).toArray 5 (0, 0) := by
      rw [Array.getElem?_eq_getElem hg] at h1; exact Option.some.inj h1
    simp [World.setCell, hg, Array.getElem_modify, e, List.map_set]
  · rcases List.mem_or_eq_of_mem_set hx with hx | hx
    · exact h.2 x hx
    · subst hx; exact hz
end Go.Proofs.YtfkfjodfjgjbkaaGreatDoor
namespace Go.Proofs.YtfkfjodfjgjbkaaGreatDoor
open Go.ChangeShapes Go.WideShapes Go.ChangeAt Go.RowKit
set_option linter.unusedVariables false
set_option linter.unusedSimpArgs false
/-- The text of bytes. -/
def txt (zs : List Int) : List UInt8 := zs.map fun z => UInt8.ofNat z.toNat
theorem txt_len (zs : List Int) : (txt zs).length = zs.length := by simp [txt]
theorem conv_rd (a : Option Addr) (n c : Nat) (zs : List Int) (w : World) (hr : Rd w a zs) (hl : zs.length = n) :
    (convert 27 9 (.slice a n c)).run Tryz.prog w = .ok (.string ⟨(txt zs).toArray⟩) w := by
  cases a with
  | none =>
    rcases hr.1 with h1 | ⟨b, o, h, _⟩
    · subst h1; subst hl
      rw [run_convert_bytes_string w 27 9 5 none _ c Tryz.underlying27 Tryz.underlying5 Tryz.underlying9]
      simp [Conv.bytesToString, txt]
      rfl
    · cases h
  | some x =>
    have := run_convert_bytes_back (P := Tryz.prog) w 27 9 5 x c (txt zs) Tryz.underlying27 Tryz.underlying5 Tryz.underlying9 (fun j hj => by
      rcases hr.1 with h1 | ⟨b, o, h, _, h2⟩
      · subst h1; simp [txt] at hj
      · cases h
        have hj' : j < zs.length := by simpa [txt] using hj
        have e := h2 j hj'
        have hz := hr.2 (zs[j]) (List.getElem_mem hj')
        rw [Addr.add_lit, e]
        simp [txt, hj']
        omega)
    rw [txt_len, hl] at this
    exact this
/-- A list of bytes at an address of its own. -/
def OwnA (B : Nat) (w : World) (ao : Option Addr) (n : Nat) (zs : List Int) : Prop :=
  (ao = none ∧ n = 0 ∧ zs = []) ∨ ∃ g, ao = some ⟨g, 0, none⟩ ∧ B ≤ g ∧ Blk w g zs ∧ n ≤ zs.length ∧ zs.length ≤ maxLen
/-- The block of an address. -/
def blk (ao : Option Addr) : Option Nat := ao.map (·.block)
theorem Own.addr {B : Nat} {w : World} {v : Value} {n : Nat} {zs : List Int} (h : Own B w v n zs) : ∃ ao, v = .slice ao n zs.length ∧ OwnA B w ao n zs := by
  rcases h with ⟨rfl, rfl, rfl⟩ | ⟨g, rfl, hB, hb, hn, hm⟩
  · exact ⟨none, rfl, .inl ⟨rfl, rfl, rfl⟩⟩
  · exact ⟨some ⟨g, 0, none⟩, rfl, .inr ⟨g, rfl, hB, hb, hn, hm⟩⟩
theorem OwnA.mono {B B' : Nat} {w : World} {ao : Option Addr} {n : Nat} {zs : List Int} (h : OwnA B w ao n zs) (hB : B' ≤ B) : OwnA B' w ao n zs := by
  rcases h with h | ⟨g, h1, h2, h3⟩
  · exact .inl h
  · exact .inr ⟨g, h1, Nat.le_trans hB h2, h3⟩
theorem OwnA.keep {B : Nat} {w w' : World} {ao : Option Addr} {n : Nat} {zs : List Int} (h : OwnA B w ao n zs) (hb : ∀ g, blk ao = some g → g < w.heap.size → w'.heap[g]? = w.heap[g]?) : OwnA B w' ao n zs := by
  rcases h with h | ⟨g, rfl, h2, h3, h4⟩
  · exact .inl h
  · exact .inr ⟨g, rfl, h2, h3.same (hb g rfl h3.lt), h4⟩
theorem OwnA.below {B : Nat} {w w' : World} {ao : Option Addr} {n : Nat} {zs : List Int} (h : OwnA B w ao n zs) (hb : Below w.heap.size w w') : OwnA B w' ao n zs :=
  h.keep fun g _ hg => hb.block g hg
theorem OwnA.lt {B : Nat} {w : World} {ao : Option Addr} {n : Nat} {zs : List Int} (h : OwnA B w ao n zs) : ∀ g, blk ao = some g → B ≤ g ∧ g < w.heap.size := by
  intro g hg
  rcases h with ⟨rfl, _⟩ | ⟨g', rfl, h2, h3, _⟩
  · cases hg
  · have : g' = g := Option.some.inj hg
    subst this; exact ⟨h2, h3.lt⟩
theorem OwnA.rd {B : Nat} {w : World} {ao : Option Addr} {n : Nat} {zs : List Int} (h : OwnA B w ao n zs) : Rd w ao zs := by
  rcases h with ⟨rfl, _, rfl⟩ | ⟨g, rfl, h2, h3, _⟩
  · exact ⟨.inl rfl, by simp⟩
  · have := h3.rd zs.length
    rwa [List.take_of_length_le (Nat.le_refl _)] at this
theorem OwnA.rdTake {B : Nat} {w : World} {ao : Option Addr} {n : Nat} {zs : List Int} (h : OwnA B w ao n zs) (m : Nat) : Rd w ao (zs.take m) := by
  rcases h with ⟨rfl, _, rfl⟩ | ⟨g, rfl, h2, h3, _⟩
  · exact ⟨.inl (by simp), by simp⟩
  · exact h3.rd m
theorem OwnA.nil {B : Nat} {w : World} {ao : Option Addr} {n : Nat} {zs : List Int} (h : OwnA B w ao n zs) : ao = none → zs.length = 0 := by
  rintro rfl
  rcases h with ⟨_, _, rfl⟩ | ⟨g, h, _⟩
  · rfl
  · cases h
theorem OwnA.le {B : Nat} {w : World} {ao : Option Addr} {n : Nat} {zs : List Int} (h : OwnA B w ao n zs) : n ≤ zs.length ∧ zs.length ≤ maxLen := by
  rcases h with ⟨_, rfl, rfl⟩ | ⟨g, _, _, _, h4, h5⟩
  · exact ⟨Nat.le_refl _, Nat.zero_le _⟩
  · exact ⟨h4, h5⟩
/-- The bytes of a text, as numbers. -/
def nums (s : ByteArray) : List Int := s.data.toList.map fun b => (b.toNat : Int)
theorem nums_len (s : ByteArray) : (nums s).length = s.size := by simp [nums]
theorem nums_at (s : ByteArray) (i : Nat) (h : i < s.size) : (nums s).getD i 0 = (s[i].toNat : Int) := by
  have h' : i < s.data.toList.length := by simpa using h
  simp [nums, List.getD_eq_getElem?_getD]
  rw [show s.data[i]? = some s[i] from Array.getElem?_eq_getElem h]
  rfl
theorem nums_bd (s : ByteArray) (i : Nat) : 0 ≤ (nums s).getD i 0 ∧ (nums s).getD i 0 ≤ 255 := by
  by_cases h : i < s.size
  · rw [nums_at s i h]; have := s[i].toNat_lt; omega
  · rw [List.getD_eq_getElem?_getD, List.getElem?_eq_none (by rw [nums_len]; omega)]; simp
theorem Own.below {B : Nat} {w w' : World} {v : Value} {n : Nat} {zs : List Int} (h : Own B w v n zs) (hb : Below w.heap.size w w') : Own B w' v n zs := by
  rcases h with h | ⟨g, h1, h2, h3, h4⟩
  · exact .inl h
  · exact .inr ⟨g, h1, h2, h3.below hb, h4⟩
theorem Own.lt {B : Nat} {w : World} {v : Value} {n : Nat} {zs : List Int} (h : Own B w v n zs) : ∀ g, v.ownBlock = some g → B ≤ g := by
  intro g hg
  rcases h with ⟨rfl, _⟩ | ⟨g', rfl, h2, _⟩
  · cases hg
  · have : g' = g := Option.some.inj hg
    omega
theorem new_rd (w : World) (z : Int) (hz : 0 ≤ z ∧ z ≤ 255) : Rd (w.alloc (.cells #[.int .u8 z] 5)) (some ⟨w.heap.size, 0, none⟩) [z] := by
  refine ⟨.inr ⟨w.heap.size, 0, rfl, by simp, fun i hi => ?_⟩, by simpa using hz⟩
  have : i = 0 := by simp at hi; omega
  subst this
  simp [go_sem]
theorem ret_int {k : IntKind} {a b : Int} (h : a = b) : Ending.returned (.int k a) = .returned (.int k b) := by rw [h]
theorem step_append_blk {ops : Array Oper} {o : Oper} {a : Act} {w : World} {K : Act → World → Prop} {Q : Exit → Act → World → Prop} {E : Prop} (hgd : o.guard = none) (s x : Operand)
    (ho : o.op = .call { callee := .builtin .append, args := #[s, x], argTypes := #[27, 27] }) (B : Nat) (v : Value) (n : Nat) (zs : List Int) (hs : a.eval s = v) (hown : Own B w v n zs)
    (ao : Option Addr) (m c : Nat) (news : List Int) (hx : a.eval x = .slice ao m c) (hr : Rd w ao news) (N : Nat) (hl : news.length = m) (hN : n + m = N) (hc : ao = none → c = 0) (hb : N ≤ 140737488355328) (hB : B ≤ w.heap.size)
    (h : ∀ v' w' zs', Hid (Own B w' v' N zs') → Hid (zs'.take N = zs.take n ++ news) → Hid (w.grownBy w' v.ownBlock) → K (a.put o.dst v') w') :
    if Region.wanted o (yielded ops a.tmps) = true then Oper.wp Tryz.prog o a w K Q else E := by
  have hw : Region.wanted o (yielded ops a.tmps) = true := by simp [Region.wanted, hgd]
  rw [if_pos hw]
  subst hN
  obtain ⟨v', w', zs', hrun, h2, h3, h4⟩ := run_append_blk w B o.type v n zs hown ao m c news hr hl hc hb hB
  unfold Oper.wp execOp
  simp only [ho, resolve, invoke, builtin, Sem.run_bind, Sem.run_pure, Result.andThen_ok, List.map_toArray, List.map_cons, List.map_nil, hs, hx, hrun]
  exact h v' w' zs' h2 h3 h4
theorem heap_set {w : World} {g : Nat} {cur : Array Value} {t : TypeId} {fr : Nat × Nat} (h : w.heap[g]? = some (.cells cur t fr)) (i : Nat) (v : Value) :
    (w.setCell ⟨g, i, none⟩ v).heap[g]? = some (.cells (cur.setIfInBounds i v) t fr) := by
  have hg : g < w.heap.size := (Array.getElem?_eq_some_iff.1 h).1
  have e : w.heap[g] = .cells cur t fr := by
    rw [Array.getElem?_eq_getElem hg] at h; exact Option.some.inj h
  simp [World.setCell, hg, Array.getElem_modify, e]
end Go.Proofs.YtfkfjodfjgjbkaaGreatDoor
namespace Go.Proofs.YtfkfjodfjgjbkaaGreatDoor
open Go.ChangeShapes Go.WideShapes Go.ChangeAt Go.RowKit
set_option linter.unusedVariables false
set_option linter.unusedSimpArgs false
def vis (c : Int) : Bool := decide (33 ≤ c) && decide (c ≤ 126)
def dgt (c : Int) : Bool := decide (48 ≤ c) && decide (c ≤ 57)
theorem ret_bool {a b : Bool} (h : a = b) : Ending.returned (.bool a) = .returned (.bool b) := by rw [h]
/-- The byte that the front of a text stands for, and how many bytes of it say so; 0, if they say none. -/
def v2 (a b : Int) : Int := 10 * (a - 48) + (b - 48)
def v3 (a b c : Int) : Int := 100 * (a - 48) + 10 * (b - 48) + (c - 48)
def num3 (l : List Int) : Int × Int :=
  if l.length < 4 then (0, 0)
  else if dgt (l.getD 1 0) && dgt (l.getD 2 0) && dgt (l.getD 3 0) && decide (v3 (l.getD 1 0) (l.getD 2 0) (l.getD 3 0) ≤ 255) then (v3 (l.getD 1 0) (l.getD 2 0) (l.getD 3 0), 4)
  else (0, 0)
def esc (l : List Int) : Int × Int :=
  if l.length ≤ 1 then (0, 0)
  else if dgt (l.getD 1 0) then num3 l
  else if vis (l.getD 1 0) then (l.getD 1 0, 2) else (0, 0)
def fr (l : List Int) : Int × Int :=
  if !vis (l.getD 0 0) then (0, 0)
  else if l.getD 0 0 == 92 then esc l
  else (l.getD 0 0, 1)
end Go.Proofs.YtfkfjodfjgjbkaaGreatDoor
namespace Go.Proofs.YtfkfjodfjgjbkaaGreatDoor
open Go.ChangeShapes Go.WideShapes Go.ChangeAt Go.RowKit
set_option linter.unusedVariables false
set_option linter.unusedSimpArgs false
/-- A Builder's block: what it holds of itself, its bytes. -/
def BB (w : World) (b : Nat) (p v : Value) : Prop := w.heap[b]? = some (.cells #[p, v] 81 (0, 0))
theorem BB.lt {w : World} {b : Nat} {p v : Value} (h : BB w b p v) : b < w.heap.size := (Array.getElem?_eq_some_iff.1 h).1
theorem BB.c0 {w : World} {b : Nat} {p v : Value} (h : BB w b p v) : w.cell? ⟨b, 0, none⟩ = some p := by
  have h' : w.heap[b]? = _ := h
  simp [World.cell?, h']
theorem BB.c1 {w : World} {b : Nat} {p v : Value} (h : BB w b p v) : w.cell? ⟨b, 1, none⟩ = some v := by
  have h' : w.heap[b]? = _ := h
  simp [World.cell?, h']
theorem BB.fz {w : World} {b : Nat} {p v : Value} (h : BB w b p v) (i : Nat) : w.frozen? ⟨b, i, none⟩ = false := by
  have h' : w.heap[b]? = _ := h
  simp [World.frozen?, h']
theorem BB.sh {w : World} {b : Nat} {p v : Value} (h : BB w b p v) : w.shape? b = some (81, 2) := by
  have h' : w.heap[b]? = _ := h
  simp [World.shape?, h']
theorem BB.same {w w' : World} {b : Nat} {p v : Value} (h : BB w b p v) (hb : w'.heap[b]? = w.heap[b]?) : BB w' b p v := hb.trans h
theorem call112 (x : Value) (w : World) : (callFunc 112 #[x]).run Tryz.prog w = .ok (.value x) w := by
  rw [run_callFunc_extern (e := Extern.AbiNoEscape.same) Tryz.func112 (by kernel_rfl) (by kernel_rfl) (by kernel_rfl) (by kernel_rfl) _ w]
  rfl
theorem neq_bld (a : Addr) (w : World) : (binOp .neq 79 (.pointer (some a)) (.pointer (some a))).run Tryz.prog w = .ok (.bool false) w := by
  obtain ⟨j, hi⟩ : ∃ j, Tryz.prog.info? 81 = some j := Option.isSome_iff_exists.1 (by kernel_rfl)
  exact Lib.run_neq_ptr_same w a Tryz.underlying79 hi
theorem to_unsafe (w : World) (b : Nat) (h : w.shape? b = some (81, 2)) : (convert 79 146 (.pointer (some ⟨b, 0, none⟩))).run Tryz.prog w = .ok (.pointer (some ⟨b, 0, none⟩)) w := by
  obtain ⟨j, hi⟩ : ∃ j, Tryz.prog.info? 81 = some j := Option.isSome_iff_exists.1 (by kernel_rfl)
  have hz : (Tryz.prog.info? 81).map (·.size) = some 2 := by kernel_rfl
  rw [hi] at hz
  have hj : j.size = 2 := by simpa using hz
  exact Lib.run_to_unsafe w ⟨b, 0, none⟩ Tryz.underlying79 Tryz.underlying146 hi (by omega) h (by simp)
theorem from_unsafe (w : World) (b : Nat) (h : w.shape? b = some (81, 2)) : (convert 146 79 (.pointer (some ⟨b, 0, none⟩))).run Tryz.prog w = .ok (.pointer (some ⟨b, 0, none⟩)) w := by
  obtain ⟨j, hi⟩ : ∃ j, Tryz.prog.info? 81 = some j := Option.isSome_iff_exists.1 (by kernel_rfl)
  exact Lib.run_from_unsafe w ⟨b, 0, none⟩ Tryz.underlying146 Tryz.underlying79 hi h (by kernel_rfl)
set_option maxRecDepth 100000 in
set_option maxHeartbeats 400000 in
theorem check_fresh (b : Nat) (v : Value) (w : World) (h : BB w b (.pointer none) v) :
    Calls Tryz.prog 84 #[.pointer (some ⟨b, 0, none⟩)] w fun e w' => e = .returned (.tuple #[]) ∧ w' = w.setCell ⟨b, 0, none⟩ (.pointer (some ⟨b, 0, none⟩)) := by
  have c0 := h.c0
  have f0 := h.fz 0
  have h1 := call112
  have h2 := to_unsafe w b h.sh
  have h3 := from_unsafe w b h.sh
  have h4 := neq_bld ⟨b, 0, none⟩
  clear h
  go_enter Tryz.func84, Tryz.ntmps84
  go_wp2
  go_end0
  exact ⟨rfl, rfl⟩
set_option maxRecDepth 100000 in
set_option maxHeartbeats 400000 in
theorem check_used (b : Nat) (v : Value) (w : World) (h : BB w b (.pointer (some ⟨b, 0, none⟩)) v) :
    Calls Tryz.prog 84 #[.pointer (some ⟨b, 0, none⟩)] w fun e w' => e = .returned (.tuple #[]) ∧ w' = w := by
  have c0 := h.c0
  have h4 := neq_bld ⟨b, 0, none⟩
  clear h
  go_enter Tryz.func84, Tryz.ntmps84
  go_wp2
  go_end0
  exact ⟨rfl, rfl⟩
theorem below_row {B : Nat} {w0 w w' : World} {b : Nat} (hb : Below B w0 w) (hlt : b < w.heap.size) (hg : w.grownBy w' (some b)) (hB : B ≤ b) : Below B w0 w' :=
  hb.grown hg (by omega) (fun k e => by have := Option.some.inj e; omega)
/-- A Builder with room for N bytes that holds bs. -/
def BSt (B : Nat) (w : World) (b N : Nat) (bs : List Value) : Prop :=
  (N = 0 ∧ bs = [] ∧ BB w b (.pointer (some ⟨b, 0, none⟩)) (.slice none 0 0)) ∨
  ∃ g c, BB w b (.pointer (some ⟨b, 0, none⟩)) (.slice (some ⟨g, 0, none⟩) bs.length c) ∧ w.ownsRow B 5 1 (.slice (some ⟨g, 0, none⟩) bs.length c) bs.length bs ∧ N ≤ c ∧ g ≠ b ∧ g < w.heap.size ∧ 0 < c
set_option maxRecDepth 100000 in
set_option maxHeartbeats 1000000 in
theorem bwrite (B b N : Nat) (bs : List Value) (z : Int) (w : World) (h : BSt B w b N bs) (hN : bs.length + 1 ≤ N) (hB : B ≤ b) :
    Calls Tryz.prog 48 #[.pointer (some ⟨b, 0, none⟩), .int .u8 z] w fun e w' => e = .returned .nilIface ∧ Hid (BSt B w' b N (bs ++ [.int .u8 z]) ∧ Below B w w') := by
  rcases h with ⟨h0, _⟩ | ⟨g, c, h1, h2, h3, h4, h5, h6⟩
  · omega
  have HB : Hid (BB w b (.pointer (some ⟨b, 0, none⟩)) (.slice (some ⟨g, 0, none⟩) bs.length c) ∧ w.ownsRow B 5 1 (.slice (some ⟨g, 0, none⟩) bs.length c) bs.length bs) := ⟨h1, h2⟩
  have c1 := h1.c1
  have hlt := h1.lt
  have f1 := h1.fz 1
  clear h1 h2
  go_enter Tryz.func48, Tryz.ntmps48
  go_wp2_with fail
  refine (check_used b _ _ HB.out.1).mono ?_
  rintro e w1 ⟨rfl, rfl⟩
  obtain ⟨i5, hi, hz0, hz1, hz2⟩ := info_parts Tryz.info5
  have HI : Hid (Tryz.prog.info? 5 = some i5 ∧ i5.size = 1) := ⟨hi, hz1⟩
  clear hi hz0 hz1 hz2
  have HO : Hid ((w1.alloc (.cells #[.int .u8 z] 5)).ownsRow B 5 1 (.slice (some ⟨g, 0, none⟩) bs.length c) bs.length bs) := HB.out.2.alloc _
  have HC : Hid (∀ j u, ([.int .u8 z] : List Value)[j]? = some u → (w1.alloc (.cells #[.int .u8 z] 5)).cell? ((⟨w1.heap.size, 0, none⟩ : Addr).add j) = some u) := by
    intro j u hu
    have hj : j = 0 := by have := (List.getElem?_eq_some_iff.1 hu).1; simp at this; omega
    subst hj
    simp at hu
    subst hu
    simp [go_sem, Addr.add]
  go_wp2_with (at_builtin; refine wpList_append_fits _ rfl _ _ 27 rfl B 5 i5 1 Tryz.underlying27 HI.out.1 HI.out.2 g bs.length c bs rfl HO.out ⟨w1.heap.size, 0, none⟩ 1 1 [.int .u8 z] rfl rfl HC.out (by intro u hu; simp at hu; subst hu; rfl) (by omega) ?_; intro w2 hown2 hgr2; have hbk : Hid (w2.heap[b]? = w1.heap[b]?) := (hgr2.block b (by simp; omega) (fun e => h4 (Option.some.inj e).symm)).trans (Below.heap_alloc _ _ b hlt); have d1 := (HB.out.1.same hbk.out).c1; have d2 := (HB.out.1.same hbk.out).fz 1; have HG2 : Hid ((w1.alloc (.cells #[.int .u8 z] 5)).grownBy w2 (some g) ∧ w2.ownsRow B 5 1 (.slice (some ⟨g, 0, none⟩) (bs.length + 1) c) (bs.length + 1) (bs ++ [.int .u8 z])) := ⟨hgr2, hown2⟩; clear hown2 hgr2)
  go_ret
  have hBg : B ≤ g := (HB.out.2.lt g rfl).1
  have hgs : g < w2.heap.size := (HG2.out.2.lt g rfl).2
  have hb2 := HB.out.1.same hbk.out
  have hbel : Below B w1 w2 := ((Below.refl B w1).alloc (by omega) _).grown HG2.out.1 (by simp; omega) (fun k e => by have := Option.some.inj e; omega)
  refine ⟨rfl, .inr ⟨g, c, ?_, ?_, h3, h4, by simpa [World.setCell] using hgs, h6⟩, hbel.setCell hB _⟩
  · have := heap_set hb2 1 (.slice (some ⟨g, 0, none⟩) (bs.length + 1) c)
    simpa [BB] using this
  · have := HG2.out.2.kept (w' := w2.setCell ⟨b, 1, none⟩ (.slice (some ⟨g, 0, none⟩) (bs.length + 1) c)) (row := some b) ⟨rfl, rfl, rfl, by simp [World.setCell], fun k _ hk => Below.heap_setCell _ _ _ _ (fun e => hk (by simp [e]))⟩ (.inr (fun e => h4 (Option.some.inj e)))
    simpa using this
theorem freeze_other (w : World) (g n b : Nat) (h : g ≠ b) : (w.freeze ⟨g, 0, none⟩ n).heap[b]? = w.heap[b]? := by
  unfold World.freeze
  split
  · rfl
  · simp [Array.getElem?_modify, h]
set_option maxRecDepth 100000 in
set_option maxHeartbeats 1000000 in
theorem bstring (B b N : Nat) (l : List UInt8) (w : World) (h : BSt B w b N (Lib.byteCells l)) (hN : l.length = N) (hl : l.length ≤ 9223372036854775807) :
    Calls Tryz.prog 49 #[.pointer (some ⟨b, 0, none⟩)] w fun e w' => e = .returned (.string ⟨l.toArray⟩) ∧ Hid (Below B w w') := by
  rcases h with ⟨h0, h1, h2⟩ | ⟨g, c, h1, h2, h3, h4, h5, h6⟩
  · have hl0 : l = [] := List.eq_nil_of_length_eq_zero (by omega)
    subst hl0
    have c1 := h2.c1
    have hlt := h2.lt
    have s1 : ∀ (W : World) (ts : Array TypeId) (ty : TypeId), (Builtin.unsafeSliceData_ ts ty #[.slice none 0 0]).run Tryz.prog W = .ok (.pointer none) W := fun W ts ty => Lib.run_unsafeSliceData_nil W ts ty 0 0
    have s2 : ∀ (W : World) (ty : TypeId), (Builtin.unsafeString_ #[120, 3] ty #[.pointer none, .int .i64 0]).run Tryz.prog W = .ok (.string .empty) W := fun W ty => Lib.run_unsafeString_none W 120 3 ty none
    clear h1 h2
    go_enter Tryz.func49, Tryz.ntmps49
    go_wp2_with fail
    go_region_held3 (fun W => W.cell? ⟨b, 1, none⟩ = some (.slice none 0 0)) (go_keep) (fail)
    go_wp2
    go_ret
    exact ⟨rfl, (Below.refl _ _).drew⟩
  · rw [Lib.byteCells_length] at h1 h2
    have c1 := h1.c1
    have hlt := h1.lt
    have s1 : ∀ (W : World) (ts : Array TypeId) (ty : TypeId), (Builtin.unsafeSliceData_ ts ty #[.slice (some ⟨g, 0, none⟩) l.length c]).run Tryz.prog W = .ok (.pointer (some ⟨g, 0, none⟩)) W := fun W ts ty => Lib.run_unsafeSliceData_row W ts ty _ _ _ (by omega)
    by_cases h0 : l = []
    · subst h0
      have s2 : ∀ (W : World) (ty : TypeId), (Builtin.unsafeString_ #[120, 3] ty #[.pointer (some ⟨g, 0, none⟩), .int .i64 0]).run Tryz.prog W = .ok (.string .empty) W := fun W ty => Lib.run_unsafeString_none W 120 3 ty _
      clear h1 h2 hN
      simp only [List.length_nil] at c1 s1
      go_enter Tryz.func49, Tryz.ntmps49
      go_wp2_with fail
      go_region_held3 (fun W => W.cell? ⟨b, 1, none⟩ = some (.slice (some ⟨g, 0, none⟩) 0 c)) (go_keep) (fail)
      go_wp2
      go_ret
      exact ⟨rfl, (Below.refl _ _).drew⟩
    · have hBg := (h2.lt g rfl).1
      have s2 : ∀ ty : TypeId, (Builtin.unsafeString_ #[120, 3] ty #[.pointer (some ⟨g, 0, none⟩), .int .i64 l.length]).run Tryz.prog w.drew = .ok (.string ⟨l.toArray⟩) (w.drew.freeze ⟨g, 0, none⟩ l.length) := by
        intro ty
        have hsh : w.drew.shape? g = some (5, c) := by
          rcases h2.2 with ⟨e, _⟩ | ⟨g', cap, cur, e, _, hg, _, _, hs, _⟩
          · cases e
          · have e1 : g = g' := by injection e with e1 _ _; injection e1 with e1; injection e1
            have e2 : c = cap := by injection e
            subst e1; subst e2
            have hg' : w.drew.heap[g]? = some (.cells cur 5 (0, 0)) := hg
            simp [World.shape?, hg', hs]
        exact Lib.run_unsafeString_row w.drew 120 3 ty 5 Tryz.underlying120 (by kernel_rfl) g c hsh l h0 (by omega) hl (fun j x hx => by
          have := h2.cells (g := g) rfl j (.int .u8 x.toNat) (by simp [Lib.byteCells, hx])
          exact this)
      have HF : Hid (Below B w (w.drew.freeze ⟨g, 0, none⟩ l.length)) := Lib.below_freeze (Below.refl _ _).drew hBg _
      have hfc : (w.drew.freeze ⟨g, 0, none⟩ l.length).cell? ⟨b, 1, none⟩ = some (.slice (some ⟨g, 0, none⟩) l.length c) := (World.cell?_of_block (w := w) (a := ⟨b, 1, none⟩) (freeze_other w.drew g l.length b h4)).trans c1
      clear h1 h2 hN
      generalize hll : l.length = ll at *
      clear hll
      go_enter Tryz.func49, Tryz.ntmps49
      go_wp2_with fail
      go_region_held3 (fun W => W.cell? ⟨b, 1, none⟩ = some (.slice (some ⟨g, 0, none⟩) ll c)) (go_keep) (fail)
      go_wp2
      go_ret
      exact ⟨rfl, HF.out⟩
end Go.Proofs.YtfkfjodfjgjbkaaGreatDoor
namespace Go.Proofs.YtfkfjodfjgjbkaaGreatDoor
open Go.ChangeShapes Go.WideShapes Go.ChangeAt Go.RowKit
set_option linter.unusedVariables false
set_option linter.unusedSimpArgs false
/-- A Builder that knows itself, and holds bs. -/
def GU (B : Nat) (w : World) (b : Nat) (bs : List Value) : Prop :=
  ∃ v, BB w b (.pointer (some ⟨b, 0, none⟩)) v ∧ w.ownsRow B 5 1 v bs.length bs ∧ v.ownBlock ≠ some b
/-- A Builder that holds bs. -/
def GS (B : Nat) (w : World) (b : Nat) (bs : List Value) : Prop :=
  (BB w b (.pointer none) (.slice none 0 0) ∧ bs = []) ∨ (GU B w b bs ∧ bs ≠ [])
theorem GS.fresh (w : World) : GS w.heap.size (w.alloc (.cells #[.pointer none, .slice none 0 0] 81)) w.heap.size [] :=
  .inl ⟨heap_alloc_new _ _, rfl⟩
theorem row_shape {B : Nat} {w : World} {e z : Nat} {v : Value} {n : Nat} {bs : List Value} (h : w.ownsRow B e z v n bs) : ∃ ao c, v = .slice ao n c := by
  rcases h.2 with ⟨rfl, rfl⟩ | ⟨g, cap, cur, rfl, _⟩
  · exact ⟨none, 0, rfl⟩
  · exact ⟨_, _, rfl⟩
theorem row_set {B : Nat} {w : World} {b : Nat} {v : Value} {n : Nat} {bs : List Value} (h : w.ownsRow B 5 1 v n bs) (hne : v.ownBlock ≠ some b) (i : Nat) (x : Value) : (w.setCell ⟨b, i, none⟩ x).ownsRow B 5 1 v n bs :=
  h.kept (row := some b) ⟨rfl, rfl, rfl, by simp [World.setCell], fun k _ hk => Below.heap_setCell _ _ _ _ (fun e => hk (by simp [e]))⟩ (.inr hne)
theorem bcheck_any (B b : Nat) (bs : List Value) (w : World) (h : GS B w b bs) (hB : B ≤ b) :
    Calls Tryz.prog 84 #[.pointer (some ⟨b, 0, none⟩)] w fun e w' => e = .returned (.tuple #[]) ∧ Hid (GU B w' b bs ∧ Below B w w') := by
  rcases h with ⟨h1, rfl⟩ | ⟨⟨v, h1, h3, h4⟩, _⟩
  · refine (check_fresh b _ w h1).mono ?_
    rintro e w' ⟨rfl, rfl⟩
    refine ⟨rfl, ⟨.slice none 0 0, ?_, World.ownsRow_nil _ _ _ _, by simp [Value.ownBlock]⟩, (Below.refl _ _).setCell hB _⟩
    have := heap_set h1 0 (.pointer (some ⟨b, 0, none⟩))
    simpa [BB] using this
  · refine (check_used b v w h1).mono ?_
    rintro e w' ⟨rfl, rfl⟩
    exact ⟨rfl, ⟨v, h1, h3, h4⟩, Below.refl _ _⟩
set_option maxRecDepth 100000 in
set_option maxHeartbeats 1000000 in
theorem wbyte (B b : Nat) (bs : List Value) (z : Int) (w : World) (h : GS B w b bs) (hB : B ≤ b) (hl : bs.length + 1 ≤ 140737488355328) :
    Calls Tryz.prog 48 #[.pointer (some ⟨b, 0, none⟩), .int .u8 z] w fun e w' => e = .returned .nilIface ∧ Hid (GS B w' b (bs ++ [.int .u8 z]) ∧ Below B w w') := by
  have HG : Hid (GS B w b bs) := h
  clear h
  go_enter Tryz.func48, Tryz.ntmps48
  go_wp2_with fail
  refine (bcheck_any B b bs _ HG.out hB).mono ?_
  rintro e w1 ⟨rfl, H1⟩
  obtain ⟨v, h1, h2, h4⟩ := H1.out.1
  have HB1 : Hid (Below B w w1) := H1.out.2
  have HB : Hid (BB w1 b (.pointer (some ⟨b, 0, none⟩)) v ∧ w1.ownsRow B 5 1 v bs.length bs) := ⟨h1, h2⟩
  have c1 := h1.c1
  have hlt := h1.lt
  clear h1 h2 H1 HG
  obtain ⟨i5, hi, hz0, hz1, hz2⟩ := info_parts Tryz.info5
  have HI : Hid (Tryz.prog.info? 5 = some i5 ∧ i5.zero = some (.int .u8 0) ∧ i5.size = 1 ∧ i5.bytes = 1) := ⟨hi, hz0, hz1, hz2⟩
  clear hi hz0 hz1 hz2
  have HO : Hid ((w1.alloc (.cells #[.int .u8 z] 5)).ownsRow B 5 1 v bs.length bs) := HB.out.2.alloc _
  have HC : Hid (∀ j u, ([.int .u8 z] : List Value)[j]? = some u → (w1.alloc (.cells #[.int .u8 z] 5)).cell? ((⟨w1.heap.size, 0, none⟩ : Addr).add j) = some u) := by
    intro j u hu
    have hj : j = 0 := by have := (List.getElem?_eq_some_iff.1 hu).1; simp at this; omega
    subst hj
    simp at hu
    subst hu
    simp [go_sem, Addr.add]
  go_wp2_with (at_builtin; refine wpList_append_own _ rfl _ _ 27 rfl B 5 i5 (.int .u8 0) 1 1 Tryz.underlying27 HI.out.1 HI.out.2.1 HI.out.2.2.1 HI.out.2.2.2 rfl (by decide) v bs.length bs rfl HO.out ⟨w1.heap.size, 0, none⟩ 1 1 [.int .u8 z] rfl rfl HC.out (by intro u hu; simp at hu; subst hu; rfl) (by simp only [maxLen]; omega) (by omega) (by simp; omega) ?_; intro v' w2 hown2 hgr2 hnil; obtain ⟨ao, cc, rfl⟩ := row_shape hown2; have hbk : Hid (w2.heap[b]? = w1.heap[b]?) := (hgr2.block b (by simp; omega) (fun e => h4 e.symm)).trans (Below.heap_alloc _ _ b hlt); have d1 := (HB.out.1.same hbk.out).c1; have d2 := (HB.out.1.same hbk.out).fz 1; have HG2 : Hid ((w1.alloc (.cells #[.int .u8 z] 5)).grownBy w2 v.ownBlock ∧ w2.ownsRow B 5 1 (.slice ao (bs.length + 1) cc) (bs.length + 1) (bs ++ [.int .u8 z])) := ⟨hgr2, hown2⟩; clear hown2 hgr2 hnil)
  go_ret
  have hb2 := HB.out.1.same hbk.out
  have hrow : ∀ g, v.ownBlock = some g → B ≤ g := fun g hg => (HB.out.2.lt g hg).1
  have hbel : Below B w1 w2 := ((Below.refl B w1).alloc (by omega) _).grown HG2.out.1 (by simp; omega) hrow
  have hne : (Value.slice ao (bs.length + 1) cc).ownBlock ≠ some b := by
    intro e
    obtain ⟨_, hc | ⟨g, cap, cur, hv, _, hg, _⟩⟩ := HG2.out.2
    · rw [hc.1] at e; simp [Value.ownBlock] at e
    · rw [hv] at e
      have e2 : g = b := by simpa [Value.ownBlock] using e
      rw [e2] at hg
      have hb3 : w2.heap[b]? = _ := hb2
      rw [hb3] at hg
      injection hg with hg
      injection hg with _ hg _
      exact absurd hg (by decide)
  refine ⟨rfl, .inr ⟨⟨.slice ao (bs.length + 1) cc, ?_, ?_, hne⟩, by simp⟩, HB1.out.trans (hbel.setCell hB _)⟩
  · have := heap_set hb2 1 (.slice ao (bs.length + 1) cc)
    simpa [BB] using this
  · have := row_set HG2.out.2 hne 1 (.slice ao (bs.length + 1) cc)
    simpa using this
set_option maxRecDepth 100000 in
set_option maxHeartbeats 1000000 in
theorem wstring (B b : Nat) (l : List UInt8) (w : World) (h : GS B w b (Lib.byteCells l)) (hl : l.length ≤ 9223372036854775807) :
    Calls Tryz.prog 49 #[.pointer (some ⟨b, 0, none⟩)] w fun e w' => e = .returned (.string ⟨l.toArray⟩) ∧ Hid (Below B w w') := by
  rcases h with ⟨h1, h0⟩ | ⟨⟨v, h1, h2, h4⟩, hne⟩
  · have hl0 : l = [] := by
      have := congrArg List.length h0
      rw [Lib.byteCells_length] at this
      exact List.eq_nil_of_length_eq_zero this
    subst hl0
    have c1 := h1.c1
    have s1 : ∀ (W : World) (ts : Array TypeId) (ty : TypeId), (Builtin.unsafeSliceData_ ts ty #[.slice none 0 0]).run Tryz.prog W = .ok (.pointer none) W := fun W ts ty => Lib.run_unsafeSliceData_nil W ts ty 0 0
    have s2 : ∀ (W : World) (ty : TypeId), (Builtin.unsafeString_ #[120, 3] ty #[.pointer none, .int .i64 0]).run Tryz.prog W = .ok (.string .empty) W := fun W ty => Lib.run_unsafeString_none W 120 3 ty none
    clear h1 h0
    go_enter Tryz.func49, Tryz.ntmps49
    go_wp2_with fail
    go_region_held3 (fun W => W.cell? ⟨b, 1, none⟩ = some (.slice none 0 0)) (go_keep) (fail)
    go_wp2
    go_ret
    exact ⟨rfl, (Below.refl _ _).drew⟩
  · refine bstring B b l.length l w (.inr ?_) rfl hl
    have hlen := Lib.byteCells_length l
    have hpos : 0 < (Lib.byteCells l).length := List.length_pos_iff.2 hne
    rcases h2.2 with ⟨_, h0⟩ | ⟨g, cap, cur, rfl, hBg, hg, hn, hm, hs, hx⟩
    · omega
    · exact ⟨g, cap, h1, h2, by omega, fun e => h4 (by rw [e]; rfl), (h2.lt g rfl).2, by omega⟩
end Go.Proofs.YtfkfjodfjgjbkaaGreatDoor
namespace Go.Proofs.YtfkfjodfjgjbkaaGreatDoor
open Go.ChangeShapes Go.WideShapes Go.ChangeAt Go.RowKit
set_option linter.unusedVariables false
set_option linter.unusedSimpArgs false
/-- Bytes that a backslash stands ahead of. -/
def spc (c : Int) : Bool := c == 46 || c == 92 || c == 34 || c == 59 || c == 40 || c == 41 || c == 64 || c == 36
def wst (c : Int) : Int := if c < 33 ∨ 126 < c then 2 else if spc c then 1 else 0
/-- How a byte is written. -/
def tx1 (c : Int) : List Int := if c < 33 ∨ 126 < c then [92, 48 + c / 100, 48 + c / 10 % 10, 48 + c % 10] else if spc c then [92, c] else [c]
def tx (l : List Int) : List Int := l.flatMap tx1
theorem tx_snoc (l : List Int) (c : Int) : tx (l ++ [c]) = tx l ++ tx1 c := by simp [tx]
theorem tx1_len (c : Int) : (tx1 c).length ≤ 4 ∧ 1 ≤ (tx1 c).length := by unfold tx1; split <;> (try split) <;> simp
theorem tx_len (l : List Int) : (tx l).length ≤ 4 * l.length := by
  induction l with
  | nil => simp [tx]
  | cons c l ih =>
    have := tx1_len c
    simp only [tx, List.flatMap_cons, List.length_append, List.length_cons] at ih ⊢
    omega
theorem tx1_bd (c : Int) (h : 0 ≤ c ∧ c ≤ 255) : ∀ z ∈ tx1 c, 0 ≤ z ∧ z ≤ 255 := by
  intro z hz
  unfold tx1 at hz
  split at hz
  · simp only [List.mem_cons, List.mem_nil_iff, or_false] at hz
    omega
  · split at hz
    · simp only [List.mem_cons, List.mem_nil_iff, or_false] at hz
      omega
    · simp only [List.mem_cons, List.mem_nil_iff, or_false] at hz
      omega
theorem tx_bd (l : List Int) (h : ∀ z ∈ l, 0 ≤ z ∧ z ≤ 255) : ∀ z ∈ tx l, 0 ≤ z ∧ z ≤ 255 := by
  intro z hz
  simp only [tx, List.mem_flatMap] at hz
  obtain ⟨c, hc, hz⟩ := hz
  exact tx1_bd c (h c hc) z hz
theorem spc_cases (c : Int) : (c = 46 ∨ c = 92 ∨ c = 34 ∨ c = 59 ∨ c = 40 ∨ c = 41 ∨ c = 64 ∨ c = 36) ∨ (spc c = false ∧ (c == 46) = false ∧ (c == 92) = false ∧ (c == 34) = false ∧ (c == 59) = false ∧ (c == 40) = false ∧ (c == 41) = false ∧ (c == 64) = false ∧ (c == 36) = false ∧ (c < 40 ∨ 41 < c)) := by
  by_cases h : c = 46 ∨ c = 92 ∨ c = 34 ∨ c = 59 ∨ c = 40 ∨ c = 41 ∨ c = 64 ∨ c = 36
  · exact .inl h
  · right
    have e1 : ¬ c = 46 := by omega
    have e2 : ¬ c = 92 := by omega
    have e3 : ¬ c = 34 := by omega
    have e4 : ¬ c = 59 := by omega
    have e5 : ¬ c = 40 := by omega
    have e6 : ¬ c = 41 := by omega
    have e7 : ¬ c = 64 := by omega
    have e8 : ¬ c = 36 := by omega
    simp [spc, e1, e2, e3, e4, e5, e6, e7, e8]
    omega
set_option maxRecDepth 100000 in
set_option maxHeartbeats 2000000 in
theorem written_any (c : Int) (w : World) (h : 0 ≤ c ∧ c ≤ 255) : Calls Tryz.prog 145 #[.int .u8 c] w fun e w' => e = .returned (.int .i64 (wst c)) ∧ w' = w := by
  by_cases hu : c < 33 ∨ 126 < c
  · have HW : Hid (wst c = 2) := by show _ = _; unfold wst; rw [if_pos hu]
    rcases hu with hu | hu
    all_goals
      go_enter Tryz.func145, Tryz.ntmps145
      go_wp2
      go_ret
      exact ⟨by rw [HW.out]; rfl, rfl⟩
  · have h1 : ¬ c < 33 := by omega
    have h2 : ¬ 126 < c := by omega
    have hs := spc_cases c
    have HW : Hid (wst c = if spc c then 1 else 0) := by show _ = _; unfold wst; rw [if_neg hu]
    clear hu
    rcases hs with hs | ⟨hs, e1, e2, e3, e4, e5, e6, e7, e8, hor⟩
    · rcases hs with rfl | rfl | rfl | rfl | rfl | rfl | rfl | rfl
      all_goals
        clear HW
        go_enter Tryz.func145, Tryz.ntmps145
        go_wp2
        go_ret
        exact ⟨rfl, rfl⟩
    · rw [hs] at HW
      clear hs e5 e6
      rcases hor with ho | ho
      all_goals
        go_enter Tryz.func145, Tryz.ntmps145
        go_wp2
        go_ret
        exact ⟨by rw [HW.out]; rfl, rfl⟩
set_option maxRecDepth 100000 in
set_option maxHeartbeats 2000000 in
theorem special_any (c : Int) (w : World) : Calls Tryz.prog 108 #[.int .u8 c] w fun e w' => e = .returned (.bool (spc c)) ∧ w' = w := by
  have hs := spc_cases c
  rcases hs with hs | ⟨hs, e1, e2, e3, e4, e5, e6, e7, e8, hor⟩
  · rcases hs with rfl | rfl | rfl | rfl | rfl | rfl | rfl | rfl
    all_goals
      go_enter Tryz.func108, Tryz.ntmps108
      go_wp2
      go_ret
      exact ⟨rfl, rfl⟩
  · have HW : Hid (spc c = false) := hs
    clear hs hor
    go_enter Tryz.func108, Tryz.ntmps108
    go_wp2
    go_ret
    exact ⟨by rw [HW.out]; rfl, rfl⟩
theorem bc_txt (l : List Int) (h : ∀ z ∈ l, 0 ≤ z ∧ z ≤ 255) : Lib.byteCells (txt l) = l.map (Value.int .u8) := by
  unfold Lib.byteCells txt
  rw [List.map_map]
  apply List.map_congr_left
  intro z hz
  have := h z hz
  simp
  omega
theorem nums_all' (s : ByteArray) : ∀ z ∈ nums s, 0 ≤ z ∧ z ≤ 255 := by
  intro z hz
  simp only [nums, List.mem_map] at hz
  obtain ⟨b, _, rfl⟩ := hz
  have := b.toNat_lt
  omega
set_option maxRecDepth 100000 in
set_option maxHeartbeats 2000000 in
theorem text_any (s : ByteArray) (w : World) (hs : s.size ≤ 35184372088000) :
    Calls Tryz.prog 128 #[.string s] w fun e w' => e = .returned (.string ⟨(txt (tx (nums s))).toArray⟩) ∧ Hid (Below w.heap.size w w') := by
  have H0 : Hid (GS w.heap.size (w.alloc (.cells #[.pointer none, .slice none 0 0] 81)) w.heap.size [] ∧ Below w.heap.size w (w.alloc (.cells #[.pointer none, .slice none 0 0] 81))) := ⟨GS.fresh w, (Below.refl _ _).alloc (Nat.le_refl _) _⟩
  go_enter Tryz.func128, Tryz.ntmps128
  go_wp2_with fail
  go_loopw [8] (fun x wr => ∃ k : Nat, k ≤ s.size ∧ x = .int .i64 k ∧ Hid (GS w.heap.size wr w.heap.size ((tx ((nums s).take k)).map (Value.int .u8)) ∧ Below w.heap.size w wr)) (fun x _ => s.size - (intOf x).toNat)
  case atStart => exact ⟨0, Nat.zero_le _, rfl, H0⟩
  case round =>
    obtain ⟨k, hk, rfl, HW⟩ := hrel
    clear H0
    by_cases hlt : k < s.size
    · have hlt' : (k : Int) < (s.size : Int) := by omega
      have hbd := nums_bd s k
      have HT : Hid ((nums s).take (k + 1) = (nums s).take k ++ [(nums s).getD k 0]) := take_snoc _ _ (by rw [nums_len]; exact hlt)
      rw [nums_at s k hlt] at hbd HT
      have hln : (tx ((nums s).take k)).length ≤ 4 * k := by
        have h1 := tx_len ((nums s).take k)
        have h2 : ((nums s).take k).length ≤ k := by simp; omega
        omega
      have HN : Hid (tx ((nums s).take (k + 1)) = tx ((nums s).take k) ++ tx1 (s[k].toNat : Int)) := by show _ = _; rw [HT.out, tx_snoc]
      have HM : Hid (((tx ((nums s).take k)).map (Value.int .u8)).length = (tx ((nums s).take k)).length) := (show _ = _ by simp)
      have HWR : Hid (∀ W, Calls Tryz.prog 145 #[.int .u8 (s[k].toNat : Int)] W fun e w' => e = .returned (.int .i64 (wst (s[k].toNat : Int))) ∧ w' = W) := fun W => written_any _ W hbd
      by_cases hu : (s[k].toNat : Int) < 33 ∨ 126 < (s[k].toNat : Int)
      · have hw : wst (s[k].toNat : Int) = 2 := by unfold wst; rw [if_pos hu]
        have HX : Hid (tx1 (s[k].toNat : Int) = [92, 48 + (s[k].toNat : Int) / 100, 48 + (s[k].toNat : Int) / 10 % 10, 48 + (s[k].toNat : Int) % 10]) := by show _ = _; unfold tx1; rw [if_pos hu]
        rw [hw] at HWR
        clear hu hw
        go_wp2_with fail
        refine (HWR.out _).mono ?_
        rintro e w1 ⟨rfl, rfl⟩
        go_wp2_with fail
        refine (wbyte w.heap.size w.heap.size _ 92 _ HW.out.1 (Nat.le_refl _) (by rw [HM.out]; omega)).mono ?_
        rintro e w2 ⟨rfl, H2⟩
        go_wp2_with fail
        refine (wbyte w.heap.size w.heap.size _ _ _ H2.out.1 (Nat.le_refl _) (by simp only [List.length_append, List.length_singleton, HM.out]; omega)).mono ?_
        rintro e w3 ⟨rfl, H3⟩
        go_wp2_with fail
        refine (wbyte w.heap.size w.heap.size _ _ _ H3.out.1 (Nat.le_refl _) (by simp only [List.length_append, List.length_singleton, HM.out]; omega)).mono ?_
        rintro e w4 ⟨rfl, H4⟩
        go_wp2_with fail
        refine (wbyte w.heap.size w.heap.size _ _ _ H4.out.1 (Nat.le_refl _) (by simp only [List.length_append, List.length_singleton, HM.out]; omega)).mono ?_
        rintro e w5 ⟨rfl, H5⟩
        go_wp2
        refine ⟨⟨k + 1, by omega, by go_num, ?_, ((HW.out.2.trans H2.out.2).trans H3.out.2).trans (H4.out.2.trans H5.out.2)⟩, by simp [intOf]; omega⟩
        rw [HN.out, HX.out, List.map_append]
        simpa only [List.map_cons, List.map_nil, List.append_assoc, List.cons_append, List.nil_append] using H5.out.1
      · by_cases hp : spc (s[k].toNat : Int) = true
        · have hw : wst (s[k].toNat : Int) = 1 := by unfold wst; rw [if_neg hu, if_pos hp]
          have HX : Hid (tx1 (s[k].toNat : Int) = [92, (s[k].toNat : Int)]) := by show _ = _; unfold tx1; rw [if_neg hu, if_pos hp]
          rw [hw] at HWR
          clear hu hw hp
          go_wp2_with fail
          refine (HWR.out _).mono ?_
          rintro e w1 ⟨rfl, rfl⟩
          go_wp2_with fail
          refine (wbyte w.heap.size w.heap.size _ 92 _ HW.out.1 (Nat.le_refl _) (by rw [HM.out]; omega)).mono ?_
          rintro e w2 ⟨rfl, H2⟩
          go_wp2_with fail
          refine (wbyte w.heap.size w.heap.size _ _ _ H2.out.1 (Nat.le_refl _) (by simp only [List.length_append, List.length_singleton, HM.out]; omega)).mono ?_
          rintro e w3 ⟨rfl, H3⟩
          go_wp2
          refine ⟨⟨k + 1, by omega, by go_num, ?_, (HW.out.2.trans H2.out.2).trans H3.out.2⟩, by simp [intOf]; omega⟩
          rw [HN.out, HX.out, List.map_append]
          simpa only [List.map_cons, List.map_nil, List.append_assoc, List.cons_append, List.nil_append] using H3.out.1
        · have hp' : spc (s[k].toNat : Int) = false := by simpa using hp
          have hw : wst (s[k].toNat : Int) = 0 := by unfold wst; rw [if_neg hu, hp']; rfl
          have HX : Hid (tx1 (s[k].toNat : Int) = [(s[k].toNat : Int)]) := by show _ = _; unfold tx1; rw [if_neg hu, hp']; rfl
          rw [hw] at HWR
          clear hu hw hp hp'
          go_wp2_with fail
          refine (HWR.out _).mono ?_
          rintro e w1 ⟨rfl, rfl⟩
          go_wp2_with fail
          refine (wbyte w.heap.size w.heap.size _ _ _ HW.out.1 (Nat.le_refl _) (by rw [HM.out]; omega)).mono ?_
          rintro e w2 ⟨rfl, H2⟩
          go_wp2
          refine ⟨⟨k + 1, by omega, by go_num, ?_, HW.out.2.trans H2.out.2⟩, by simp [intOf]; omega⟩
          rw [HN.out, HX.out, List.map_append]
          simpa only [List.map_cons, List.map_nil, List.append_assoc, List.cons_append, List.nil_append] using H2.out.1
    · have hge : (s.size : Int) ≤ (k : Int) := by omega
      have ek : (nums s).take k = nums s := List.take_of_length_le (by rw [nums_len]; omega)
      have hg := HW.out.1
      rw [ek, ← bc_txt _ (tx_bd _ (nums_all' s))] at hg
      have hl : (txt (tx (nums s))).length ≤ 9223372036854775807 := by
        have := tx_len (nums s)
        rw [nums_len] at this
        rw [txt_len]; omega
      have HG : Hid (GS w.heap.size wr w.heap.size (Lib.byteCells (txt (tx (nums s))))) := hg
      clear hg ek
      generalize hLL : txt (tx (nums s)) = L at *
      have HLL : Hid (txt (tx (nums s)) = L) := hLL
      clear hLL
      go_wp2_with fail
      refine (wstring w.heap.size w.heap.size L _ HG.out hl).mono ?_
      rintro e w2 ⟨rfl, H2⟩
      go_wp2
      go_ret
      exact ⟨by rw [HLL.out]; rfl, HW.out.2.trans H2.out⟩
end Go.Proofs.YtfkfjodfjgjbkaaGreatDoor
namespace Go.Proofs.YtfkfjodfjgjbkaaGreatDoor
open Go.ChangeShapes Go.WideShapes Go.ChangeAt Go.RowKit
set_option linter.unusedVariables false
set_option linter.unusedSimpArgs false
def fz (z : Int) : Int := if 65 ≤ z ∧ z ≤ 90 then z + 32 else z
/-- A block that came out of a text. -/
def Blk2 (w : World) (g : Nat) (zs : List Int) : Prop :=
  w.heap[g]? = some (.cells (zs.map (Value.int .u8)).toArray 5 (zs.length, zs.length + 1)) ∧ ∀ z ∈ zs, 0 ≤ z ∧ z ≤ 255
theorem Blk2.lt {w : World} {g : Nat} {zs : List Int} (h : Blk2 w g zs) : g < w.heap.size := (Array.getElem?_eq_some_iff.1 h.1).1
theorem Blk2.cell {w : World} {g : Nat} {zs : List Int} (h : Blk2 w g zs) (i : Nat) (hi : i < zs.length) : w.cell? ⟨g, i, none⟩ = some (.int .u8 (zs.getD i 0)) := by
  simp [World.cell?, h.1, hi]
theorem Blk2.frozen {w : World} {g : Nat} {zs : List Int} (h : Blk2 w g zs) (i : Nat) (hi : i < zs.length) : w.frozen? ⟨g, i, none⟩ = false := by
  simp [World.frozen?, h.1]; omega
theorem Blk2.rd {w : World} {g : Nat} {zs : List Int} (h : Blk2 w g zs) (n : Nat) : Rd w (some ⟨g, 0, none⟩) (zs.take n) := by
  refine ⟨.inr ⟨g, 0, rfl, h.lt, fun i hi => ?_⟩, fun z hz => h.2 z (List.mem_of_mem_take hz)⟩
  rw [Nat.zero_add, h.cell i (by simp at hi; omega)]
  have : i < n := by simp at hi; omega
  simp [List.getD_eq_getElem?_getD, this]
theorem Blk2.stored {w : World} {g : Nat} {zs : List Int} (h : Blk2 w g zs) (i : Nat) (z : Int) (hz : 0 ≤ z ∧ z ≤ 255) : Blk2 (w.setCell ⟨g, i, none⟩ (.int .u8 z)) g (zs.set i z) := by
  refine ⟨?_, fun x hx => ?_⟩
  · have hg := h.lt
    have h1 := h.1
    have e : w.heap[g] = .cells (zs.map (Value.int .u8)).toArray 5 (zs.length, zs.length + 1) := by
      rw [Array.getElem?_eq_getElem hg] at h1; exact Option.some.inj h1
    simp [World.setCell, hg, Array.getElem_modify, e, List.map_set]
  · rcases List.mem_or_eq_of_mem_set hx with hx | hx
    · exact h.2 x hx
    · subst hx; exact hz
/-- The first k bytes are folded, the others as they were. -/
def FSt (l zs : List Int) (k : Nat) : Prop := l.length ≤ zs.length ∧ ∀ i, i < l.length → zs.getD i 0 = if i < k then fz (l.getD i 0) else l.getD i 0
theorem FSt.zero {l zs : List Int} (h : zs.take l.length = l) (hl : l.length ≤ zs.length) : FSt l zs 0 := by
  refine ⟨hl, fun i hi => ?_⟩
  rw [if_neg (by omega)]
  conv => rhs; rw [← h]
  simp [List.getD_eq_getElem?_getD, List.getElem?_take, hi]
theorem FSt.same {l zs : List Int} {k : Nat} (h : FSt l zs k) (hf : fz (l.getD k 0) = l.getD k 0) : FSt l zs (k + 1) := by
  refine ⟨h.1, fun i hi => ?_⟩
  rw [h.2 i hi]
  by_cases e : i = k
  · subst e; rw [if_neg (by omega), if_pos (by omega), hf]
  · by_cases e2 : i < k
    · rw [if_pos e2, if_pos (by omega)]
    · rw [if_neg e2, if_neg (by omega)]
theorem FSt.set {l zs : List Int} {k : Nat} (h : FSt l zs k) (hk : k < l.length) : FSt l (zs.set k (fz (l.getD k 0))) (k + 1) := by
  refine ⟨by rw [List.length_set]; exact h.1, fun i hi => ?_⟩
  have hl := h.1
  by_cases e : i = k
  · subst e
    rw [if_pos (by omega)]
    simp [List.getD_eq_getElem?_getD, List.getElem?_set, show i < zs.length by omega]
  · have : (zs.set k (fz (l.getD k 0))).getD i 0 = zs.getD i 0 := by
      simp [List.getD_eq_getElem?_getD, List.getElem?_set, show ¬ k = i by omega]
    rw [this, h.2 i hi]
    by_cases e2 : i < k
    · rw [if_pos e2, if_pos (by omega)]
    · rw [if_neg e2, if_neg (by omega)]
theorem txt_nums (s : ByteArray) : (⟨(txt (nums s)).toArray⟩ : ByteArray) = s := by
  have : txt (nums s) = s.data.toList := by
    unfold nums txt
    rw [List.map_map]
    conv => rhs; rw [← List.map_id s.data.toList]
    apply List.map_congr_left
    intro b _
    simp
  rw [this]
/-- The folded bytes. -/
def fl (s : ByteArray) : List Int := (nums s).map fz
end Go.Proofs.YtfkfjodfjgjbkaaGreatDoor
namespace Go.Proofs.YtfkfjodfjgjbkaaGreatDoor
open Go.ChangeShapes Go.WideShapes Go.ChangeAt Go.RowKit
set_option linter.unusedVariables false
set_option linter.unusedSimpArgs false
theorem new_rd4 (w : World) (a b c d : Int) (ha : 0 ≤ a ∧ a ≤ 255) (hb : 0 ≤ b ∧ b ≤ 255) (hc : 0 ≤ c ∧ c ≤ 255) (hd : 0 ≤ d ∧ d ≤ 255) : Rd (w.alloc (.cells #[.int .u8 a, .int .u8 b, .int .u8 c, .int .u8 d] 5)) (some ⟨w.heap.size, 0, none⟩) [a, b, c, d] := by
  refine ⟨.inr ⟨w.heap.size, 0, rfl, by simp, fun i hi => ?_⟩, by simp only [List.mem_cons, List.mem_nil_iff, or_false]; omega⟩
  have : i = 0 ∨ i = 1 ∨ i = 2 ∨ i = 3 := by simp at hi; omega
  rcases this with rfl | rfl | rfl | rfl <;> simp [go_sem]
set_option maxRecDepth 100000 in
set_option maxHeartbeats 2000000 in
theorem rtext_any (s : ByteArray) (w : World) (hs : s.size ≤ 35184372088000) :
    Calls Tryz.prog 78 #[.string s] w fun e w' => e = .returned (.string ⟨(txt (tx (nums s))).toArray⟩) ∧ Hid (Below w.heap.size w w') := by
  go_enter Tryz.func78, Tryz.ntmps78
  go_wp2_with fail
  go_loopw [3, 4] (fun v x wr => ∃ k : Nat, k ≤ s.size ∧ x = .int .i64 k ∧ Hid (∃ ys, Own w.heap.size wr v (tx ((nums s).take k)).length ys ∧ ys.take (tx ((nums s).take k)).length = tx ((nums s).take k)) ∧ Hid (Below w.heap.size w wr)) (fun _ x _ => s.size - (intOf x).toNat)
  case atStart => exact ⟨0, Nat.zero_le _, rfl, ⟨[], .inl ⟨rfl, rfl, rfl⟩, rfl⟩, Below.refl _ _⟩
  case round =>
    obtain ⟨k, hk, rfl, HW, HB⟩ := hrel
    by_cases hlt : k < s.size
    · have hlt' : (k : Int) < (s.size : Int) := by omega
      have hbd := nums_bd s k
      have HT : Hid ((nums s).take (k + 1) = (nums s).take k ++ [(nums s).getD k 0]) := take_snoc _ _ (by rw [nums_len]; exact hlt)
      rw [nums_at s k hlt] at hbd HT
      have hln : (tx ((nums s).take k)).length ≤ 4 * k := by
        have h1 := tx_len ((nums s).take k)
        have h2 : ((nums s).take k).length ≤ k := by simp; omega
        omega
      have HN : Hid (tx ((nums s).take (k + 1)) = tx ((nums s).take k) ++ tx1 (s[k].toNat : Int)) := by show _ = _; rw [HT.out, tx_snoc]
      obtain ⟨ys, hO, hT⟩ := HW.out
      have HO : Hid (Own w.heap.size wr u3 (tx ((nums s).take k)).length ys ∧ ys.take (tx ((nums s).take k)).length = tx ((nums s).take k)) := ⟨hO, hT⟩
      clear hO hT
      generalize hL : tx ((nums s).take k) = L at *
      have hbs : w.heap.size ≤ wr.heap.size := HB.out.size
      by_cases hu : (s[k].toNat : Int) < 33 ∨ 126 < (s[k].toNat : Int)
      · have HX : Hid (tx1 (s[k].toNat : Int) = [92, 48 + (s[k].toNat : Int) / 100, 48 + (s[k].toNat : Int) / 10 % 10, 48 + (s[k].toNat : Int) % 10]) := by show _ = _; unfold tx1; rw [if_pos hu]
        have hnb : Below wr.heap.size wr (wr.alloc (.cells #[.int .u8 92, .int .u8 (48 + (s[k].toNat : Int) / 100), .int .u8 (48 + (s[k].toNat : Int) / 10 % 10), .int .u8 (48 + (s[k].toNat : Int) % 10)] 5)) := (Below.refl _ _).alloc (Nat.le_refl _) _
        have HO2 : Hid (Own w.heap.size (wr.alloc (.cells #[.int .u8 92, .int .u8 (48 + (s[k].toNat : Int) / 100), .int .u8 (48 + (s[k].toNat : Int) / 10 % 10), .int .u8 (48 + (s[k].toNat : Int) % 10)] 5)) u3 L.length ys ∧ ys.take L.length = L) := ⟨HO.out.1.below hnb, HO.out.2⟩
        have HR2 : Hid (Rd (wr.alloc (.cells #[.int .u8 92, .int .u8 (48 + (s[k].toNat : Int) / 100), .int .u8 (48 + (s[k].toNat : Int) / 10 % 10), .int .u8 (48 + (s[k].toNat : Int) % 10)] 5)) (some ⟨wr.heap.size, 0, none⟩) [92, 48 + (s[k].toNat : Int) / 100, 48 + (s[k].toNat : Int) / 10 % 10, 48 + (s[k].toNat : Int) % 10]) := new_rd4 wr _ _ _ _ (by omega) (by omega) (by omega) (by omega)
        have HNB : Hid (Below wr.heap.size wr (wr.alloc (.cells #[.int .u8 92, .int .u8 (48 + (s[k].toNat : Int) / 100), .int .u8 (48 + (s[k].toNat : Int) / 10 % 10), .int .u8 (48 + (s[k].toNat : Int) % 10)] 5))) := hnb
        clear hnb
        rcases hu with hu | hu
        all_goals
          go_wp2_with (at_builtin; refine wpList_append_blk _ rfl _ _ rfl w.heap.size _ L.length ys rfl HO2.out.1 (some ⟨wr.heap.size, 0, none⟩) 4 4 [92, 48 + (s[k].toNat : Int) / 100, 48 + (s[k].toNat : Int) / 10 % 10, 48 + (s[k].toNat : Int) % 10] rfl HR2.out rfl (by simp) (by omega) (Nat.le_trans HB.out.size HNB.out.size) ?_; intro v' w' ys' hO' hT' hG')
          have hrow := HO2.out.1.lt
          refine ⟨⟨k + 1, by omega, by go_num, ⟨ys', ?_, ?_⟩, ?_⟩, by simp [intOf]; omega⟩
          · rw [HN.out, HX.out, List.length_append]; exact hO'.out
          · rw [HN.out, HX.out, List.length_append]; exact hT'.out.trans (by rw [HO2.out.2])
          · exact (HB.out.trans (HNB.out.mono HB.out.size)).grown hG' (Nat.le_trans HB.out.size HNB.out.size) hrow
      · have h1 : ¬ (s[k].toNat : Int) < 33 := by omega
        have h2 : ¬ 126 < (s[k].toNat : Int) := by omega
        have HSP : Hid (∀ W, Calls Tryz.prog 108 #[.int .u8 (s[k].toNat : Int)] W fun e w' => e = .returned (.bool (spc (s[k].toNat : Int))) ∧ w' = W) := fun W => special_any _ W
        by_cases hp : spc (s[k].toNat : Int) = true
        · have HX : Hid (tx1 (s[k].toNat : Int) = [92, (s[k].toNat : Int)]) := by show _ = _; unfold tx1; rw [if_neg hu, if_pos hp]
          rw [hp] at HSP
          clear hu hp
          have hnb : Below wr.heap.size wr (wr.alloc (.cells #[.int .u8 92] 5)) := (Below.refl _ _).alloc (Nat.le_refl _) _
          have HO2 : Hid (Own w.heap.size (wr.alloc (.cells #[.int .u8 92] 5)) u3 L.length ys ∧ ys.take L.length = L) := ⟨HO.out.1.below hnb, HO.out.2⟩
          have HR2 : Hid (Rd (wr.alloc (.cells #[.int .u8 92] 5)) (some ⟨wr.heap.size, 0, none⟩) [92]) := new_rd wr _ (by omega)
          have HNB : Hid (Below wr.heap.size wr (wr.alloc (.cells #[.int .u8 92] 5))) := hnb
          clear hnb
          go_wp2_with fail
          refine (HSP.out _).mono ?_
          rintro e w1 ⟨rfl, rfl⟩
          go_wp2_with (at_builtin; first
            | (refine wpList_append_blk _ rfl _ _ rfl w.heap.size _ L.length ys rfl HO2.out.1 (some ⟨w1.heap.size, 0, none⟩) 1 1 [92] rfl HR2.out rfl (by simp) (by omega) (Nat.le_trans HB.out.size HNB.out.size) ?_; intro v' w' ys' hO' hT' hG'; have HB2 : Hid (Below w.heap.size w w') := ((HB.out.trans (HNB.out.mono HB.out.size)).grown hG' (Nat.le_trans HB.out.size HNB.out.size) HO2.out.1.lt); clear HO2 HR2 HNB)
            | (refine wpList_append_blk _ rfl _ _ rfl w.heap.size _ (L.length + 1) ys' rfl (hO'.out.below ((Below.refl _ _).alloc (Nat.le_refl _) _)) (some ⟨w'.heap.size, 0, none⟩) 1 1 [(s[k].toNat : Int)] rfl (new_rd w' _ (by omega)) rfl (by simp) (by omega) (by simp; have := HB2.out.size; omega) ?_; intro v2 w2 ys2 hO2 hT2 hG2))
          have hrow : ∀ g, v'.ownBlock = some g → w.heap.size ≤ g := hO'.out.lt
          refine ⟨⟨k + 1, by omega, by go_num, ⟨ys2, ?_, ?_⟩, ?_⟩, by simp [intOf]; omega⟩
          · rw [HN.out, HX.out, List.length_append]; exact hO2.out
          · rw [HN.out, HX.out, List.length_append]; exact hT2.out.trans (by rw [hT'.out, HO.out.2]; simp)
          · exact (HB2.out.alloc HB2.out.size _).grown hG2 (HB2.out.alloc HB2.out.size _).size hrow
        · have hp' : spc (s[k].toNat : Int) = false := by simpa using hp
          have HX : Hid (tx1 (s[k].toNat : Int) = [(s[k].toNat : Int)]) := by show _ = _; unfold tx1; rw [if_neg hu, hp']; rfl
          rw [hp'] at HSP
          clear hu hp hp'
          have hnb : Below wr.heap.size wr (wr.alloc (.cells #[.int .u8 (s[k].toNat : Int)] 5)) := (Below.refl _ _).alloc (Nat.le_refl _) _
          have HO2 : Hid (Own w.heap.size (wr.alloc (.cells #[.int .u8 (s[k].toNat : Int)] 5)) u3 L.length ys ∧ ys.take L.length = L) := ⟨HO.out.1.below hnb, HO.out.2⟩
          have HR2 : Hid (Rd (wr.alloc (.cells #[.int .u8 (s[k].toNat : Int)] 5)) (some ⟨wr.heap.size, 0, none⟩) [(s[k].toNat : Int)]) := new_rd wr _ (by omega)
          have HNB : Hid (Below wr.heap.size wr (wr.alloc (.cells #[.int .u8 (s[k].toNat : Int)] 5))) := hnb
          clear hnb
          go_wp2_with fail
          refine (HSP.out _).mono ?_
          rintro e w1 ⟨rfl, rfl⟩
          go_wp2_with (at_builtin; refine wpList_append_blk _ rfl _ _ rfl w.heap.size _ L.length ys rfl HO2.out.1 (some ⟨w1.heap.size, 0, none⟩) 1 1 [(s[k].toNat : Int)] rfl HR2.out rfl (by simp) (by omega) (Nat.le_trans HB.out.size HNB.out.size) ?_; intro v' w' ys' hO' hT' hG')
          have hrow := HO2.out.1.lt
          refine ⟨⟨k + 1, by omega, by go_num, ⟨ys', ?_, ?_⟩, ?_⟩, by simp [intOf]; omega⟩
          · rw [HN.out, HX.out, List.length_append]; exact hO'.out
          · rw [HN.out, HX.out, List.length_append]; exact hT'.out.trans (by rw [HO2.out.2])
          · exact (HB.out.trans (HNB.out.mono HB.out.size)).grown hG' (Nat.le_trans HB.out.size HNB.out.size) hrow
    · obtain ⟨ys, hO, hT⟩ := HW.out
      have ek : (nums s).take k = nums s := List.take_of_length_le (by rw [nums_len]; omega)
      rw [ek] at hO hT
      obtain ⟨ao, rfl, hoa⟩ := hO.addr
      have hrd := hoa.rdTake (tx (nums s)).length
      rw [hT] at hrd
      have hcv := conv_rd ao (tx (nums s)).length ys.length (tx (nums s)) wr hrd rfl
      have hge : (s.size : Int) ≤ (k : Int) := by omega
      clear hO hT hoa hrd ek
      generalize ys.length = yl at *
      generalize (tx (nums s)).length = tl at *
      go_wp2
      go_ret
      exact ⟨rfl, HB.out⟩
end Go.Proofs.YtfkfjodfjgjbkaaGreatDoor
namespace Go.Proofs.YtfkfjodfjgjbkaaGreatDoor
open Go.ChangeShapes Go.WideShapes Go.ChangeAt Go.RowKit
set_option linter.unusedVariables false
set_option linter.unusedSimpArgs false
/-- The label's bytes and the place behind them; none, if a byte can't be read. -/
def go (l : List Int) (p : Nat) (out : List Int) : Option (List Int × Nat) :=
  if h : p < l.length ∧ l.getD p 0 ≠ 46 then
    if hn : (fr (l.drop p)).2 ≤ 0 then none
    else go l (p + (fr (l.drop p)).2.toNat) (out ++ [(fr (l.drop p)).1])
  else some (out, p)
termination_by l.length - p
decreasing_by omega
def chk (n : Nat) : Int := if 1 ≤ n ∧ n ≤ 63 then 0 else 4
set_option maxRecDepth 100000 in
set_option maxHeartbeats 400000 in
theorem chk_any (s : ByteArray) (w : World) (hs : s.size ≤ 9223372036854775807) :
    Calls Tryz.prog 58 #[.string s] w fun e w' => e = .returned (.int .i64 (chk s.size)) ∧ w' = w := by
  by_cases h : 1 ≤ s.size ∧ s.size ≤ 63
  · have h1 : ¬ (s.size : Int) < 1 := by omega
    have h2 : ¬ (63 : Int) < (s.size : Int) := by omega
    have HE : Hid (chk s.size = 0) := by show _ = _; unfold chk; rw [if_pos h]
    clear h
    go_enter Tryz.func58, Tryz.ntmps58
    go_wp2
    go_ret
    exact ⟨by rw [HE.out]; rfl, rfl⟩
  · have HE : Hid (chk s.size = 4) := by show _ = _; unfold chk; rw [if_neg h]
    have ho : (s.size : Int) < 1 ∨ (63 : Int) < (s.size : Int) := by omega
    clear h
    rcases ho with ho | ho
    all_goals
      go_enter Tryz.func58, Tryz.ntmps58
      go_wp2
      go_ret
      exact ⟨by rw [HE.out]; rfl, rfl⟩
set_option maxRecDepth 100000 in
set_option maxHeartbeats 400000 in
theorem rchk_any (s : ByteArray) (w : World) (hs : s.size ≤ 9223372036854775807) :
    Calls Tryz.prog 106 #[.string s] w fun e w' => e = .returned (.int .i64 (chk s.size)) ∧ w' = w := by
  by_cases h : 1 ≤ s.size ∧ s.size ≤ 63
  · have h1 : ¬ (s.size : Int) < 1 := by omega
    have h2 : ¬ (63 : Int) < (s.size : Int) := by omega
    have HE : Hid (chk s.size = 0) := by show _ = _; unfold chk; rw [if_pos h]
    clear h
    go_enter Tryz.func106, Tryz.ntmps106
    go_wp2
    go_ret
    exact ⟨by rw [HE.out]; rfl, rfl⟩
  · have HE : Hid (chk s.size = 4) := by show _ = _; unfold chk; rw [if_neg h]
    have ho : (s.size : Int) < 1 ∨ (63 : Int) < (s.size : Int) := by omega
    clear h
    rcases ho with ho | ho
    all_goals
      go_enter Tryz.func106, Tryz.ntmps106
      go_wp2
      go_ret
      exact ⟨by rw [HE.out]; rfl, rfl⟩
theorem txt_size (l : List Int) : (⟨(txt l).toArray⟩ : ByteArray).size = l.length := by
  show (txt l).toArray.size = _
  simp [txt]
end Go.Proofs.YtfkfjodfjgjbkaaGreatDoor
namespace Go.Proofs.YtfkfjodfjgjbkaaGreatDoor
open Go.ChangeShapes Go.WideShapes Go.ChangeAt Go.RowKit
set_option linter.unusedVariables false
set_option linter.unusedSimpArgs false
/-- The size of a name. -/
def nsz : List ByteArray → Nat
  | [] => 1
  | s :: r => s.size + 1 + nsz r
theorem nsz_snoc (l : List ByteArray) (s : ByteArray) : nsz (l ++ [s]) = nsz l + s.size + 1 := by
  induction l with
  | nil => simp [nsz]; omega
  | cons x l ih => simp only [List.cons_append, nsz, ih]; omega
theorem nsz_le (l : List ByteArray) (k : Nat) : nsz (l.take k) ≤ nsz l := by
  induction l generalizing k with
  | nil => simp [nsz]
  | cons x l ih =>
    cases k with
    | zero => simp [nsz]; omega
    | succ k => simp only [List.take_succ_cons, nsz]; have := ih k; omega
theorem take_snocT (ss : List ByteArray) (k : Nat) (h : k < ss.length) : ss.take (k + 1) = ss.take k ++ [ss[k]] := List.take_succ_eq_append_getElem h
/-- Whether all labels may be; the error of a name. -/
def labsOk (ss : List ByteArray) : Prop := ∀ s ∈ ss, chk s.size = 0
instance (ss : List ByteArray) : Decidable (labsOk ss) := by unfold labsOk; exact inferInstance
def nck (ss : List ByteArray) : Int := if labsOk ss then (if 255 < nsz ss then 5 else 0) else 4
theorem chk_cases (n : Nat) : chk n = 0 ∨ chk n = 4 := by unfold chk; split <;> simp
set_option maxRecDepth 100000 in
set_option maxHeartbeats 1000000 in
theorem refsize_any (a : Option Addr) (len cap : Nat) (ss : List ByteArray) (w : World) (hr : RdT w a ss) (hl : ss.length = len) (hm : nsz ss ≤ 1000000000000000) :
    Calls Tryz.prog 107 #[.slice a len cap] w fun e w' => e = .returned (.int .i64 (nsz ss)) ∧ w' = w := by
  have HR : Hid (RdT w a ss) := hr
  have HL : Hid (ss.length = len) := hl
  have hln : len ≤ 9223372036854775807 := by
    have : ∀ l : List ByteArray, l.length ≤ nsz l := by
      intro l; induction l with
      | nil => simp [nsz]
      | cons x l ih => simp only [List.length_cons, nsz]; omega
    have := this ss
    omega
  obtain ⟨T, hT⟩ : ∃ T, nsz ss = T := ⟨_, rfl⟩
  have HT : Hid (nsz ss = T) := hT
  rw [hT] at hm ⊢
  clear hr hl hT
  go_enter Tryz.func107, Tryz.ntmps107
  go_wp2_with fail
  go_loop [3, 4] (fun n x => ∃ k m : Nat, k ≤ len ∧ m ≤ T ∧ x = .int .i64 k ∧ n = .int .i64 m ∧ Hid (nsz (ss.take k) = m)) (fun _ x => len - (intOf x).toNat)
  case atStart => exact ⟨0, 1, Nat.zero_le _, by rw [← HT.out]; exact nsz_le ss 0, rfl, rfl, rfl⟩
  case round =>
    obtain ⟨k, m, hk, hmT, rfl, rfl, HM⟩ := hrel
    by_cases hlt : k < len
    · have hlt' : (k : Int) < (len : Int) := by omega
      have hks : k < ss.length := by rw [HL.out]; exact hlt
      obtain ⟨b, o, rfl, hb, hc⟩ := HR.out.at k hks
      have hn : nsz (ss.take (k + 1)) = m + ss[k].size + 1 := by rw [take_snocT ss k hks, nsz_snoc, HM.out]
      have hle := nsz_le ss (k + 1)
      rw [hn, HT.out] at hle
      have HN : Hid (nsz (ss.take (k + 1)) = m + ss[k].size + 1) := hn
      clear hn
      generalize ss[k] = s at *
      go_wp2
      go_round
      case rel => exact ⟨k + 1, m + s.size + 1, by omega, hle, by go_num, by go_num, HN⟩
      case measure => simp [intOf]; omega
    · have hge : (len : Int) ≤ (k : Int) := by omega
      have e : m = T := by rw [← HM.out, ← HT.out, List.take_of_length_le (by rw [HL.out]; omega)]
      subst e
      go_wp2
      go_ret
      exact ⟨rfl, rfl⟩
set_option maxRecDepth 100000 in
set_option maxHeartbeats 1000000 in
theorem refcheck_any (a : Option Addr) (len cap : Nat) (ss : List ByteArray) (w : World) (hr : RdT w a ss) (hl : ss.length = len) (hm : nsz ss ≤ 1000000000000000) (hlen : len ≤ 9223372036854775807) (hz : ∀ s ∈ ss, s.size ≤ 9223372036854775807) :
    Calls Tryz.prog 73 #[.slice a len cap] w fun e w' => e = .returned (.int .i64 (nck ss)) ∧ w' = w := by
  have HR : Hid (RdT w a ss ∧ ∀ s ∈ ss, s.size ≤ 9223372036854775807) := ⟨hr, hz⟩
  have HL : Hid (ss.length = len) := hl
  have HS : Hid (∀ W, RdT W a ss → Calls Tryz.prog 107 #[.slice a len cap] W fun e w' => e = .returned (.int .i64 (nsz ss)) ∧ w' = W) := fun W hW => refsize_any a len cap ss W hW hl hm
  obtain ⟨T, hT⟩ : ∃ T, nsz ss = T := ⟨_, rfl⟩
  have HT : Hid (nsz ss = T) := hT
  rw [hT] at hm HS
  clear hr hl hT hz
  go_enter Tryz.func73, Tryz.ntmps73
  go_wp2_with fail
  go_loopw [3] (fun x wr => ∃ k : Nat, k ≤ len ∧ x = .int .i64 k ∧ wr = w ∧ Hid (∀ i (h : i < ss.length), i < k → chk ss[i].size = 0)) (fun x _ => len - (intOf x).toNat)
  case atStart => exact ⟨0, Nat.zero_le _, rfl, rfl, fun i _ h => absurd h (by omega)⟩
  case round =>
    obtain ⟨k, hk, rfl, rfl, HK⟩ := hrel
    by_cases hlt : k < len
    · have hlt' : (k : Int) < (len : Int) := by omega
      have hks : k < ss.length := by rw [HL.out]; exact hlt
      obtain ⟨b, o, rfl, hb, hc⟩ := HR.out.1.at k hks
      have HC : Hid (∀ W, Calls Tryz.prog 106 #[.string ss[k]] W fun e w' => e = .returned (.int .i64 (chk ss[k].size)) ∧ w' = W) := fun W => rchk_any ss[k] W (HR.out.2 _ (List.getElem_mem hks))
      rcases chk_cases ss[k].size with hk0 | hk4
      · have HN : Hid (∀ i (h : i < ss.length), i < k + 1 → chk ss[i].size = 0) := by
          intro i h hi
          by_cases e : i = k
          · subst e; exact hk0
          · exact HK.out i h (by omega)
        rw [hk0] at HC
        clear hk0 HK
        generalize ss[k] = s at *
        go_wp2_with fail
        refine (HC.out _).mono ?_
        rintro e w1 ⟨rfl, rfl⟩
        go_wp2
        exact ⟨⟨k + 1, by omega, by go_num, trivial, HN⟩, by simp [intOf]; omega⟩
      · have HE : Hid (nck ss = 4) := by
          show nck ss = 4
          unfold nck
          rw [if_neg (fun h => by have := h _ (List.getElem_mem hks); rw [hk4] at this; cases this)]
        rw [hk4] at HC
        clear hk4 HK
        generalize ss[k] = s at *
        go_wp2_with fail
        refine (HC.out _).mono ?_
        rintro e w1 ⟨rfl, rfl⟩
        go_wp2
        go_ret
        exact ⟨by rw [HE.out]; rfl, rfl⟩
    · have hge : (len : Int) ≤ (k : Int) := by omega
      have HO : Hid (labsOk ss) := by
        intro s hs
        obtain ⟨i, hi, rfl⟩ := List.getElem_of_mem hs
        exact HK.out i hi (by have := HL.out; omega)
      by_cases hb : 255 < T
      · have HE : Hid (nck ss = 5) := by show nck ss = 5; unfold nck; rw [if_pos HO.out, HT.out, if_pos hb]
        have hb' : (255 : Int) < (T : Int) := by omega
        clear HK HO
        go_wp2_with fail
        refine (HS.out _ HR.out.1).mono ?_
        rintro e w1 ⟨rfl, rfl⟩
        go_wp2
        go_ret
        exact ⟨by rw [HE.out]; rfl, rfl⟩
      · have HE : Hid (nck ss = 0) := by show nck ss = 0; unfold nck; rw [if_pos HO.out, HT.out, if_neg hb]
        have hb' : ¬ (255 : Int) < (T : Int) := by omega
        clear HK HO
        go_wp2_with fail
        refine (HS.out _ HR.out.1).mono ?_
        rintro e w1 ⟨rfl, rfl⟩
        go_wp2
        go_ret
        exact ⟨by rw [HE.out]; rfl, rfl⟩
end Go.Proofs.YtfkfjodfjgjbkaaGreatDoor
namespace Go.Proofs.YtfkfjodfjgjbkaaGreatDoor
open Go.ChangeShapes Go.WideShapes Go.ChangeAt Go.RowKit
set_option linter.unusedVariables false
set_option linter.unusedSimpArgs false
/-- What is asked of a name that is read: it lies there, and is not too great. -/
structure Nm (w : World) (a : Option Addr) (n : Nat) (ss : List ByteArray) : Prop where
  rd : RdT w a ss
  len : ss.length = n
  sz : nsz ss ≤ 1000000000000
theorem nsz_len : ∀ l : List ByteArray, l.length + 1 ≤ nsz l
  | [] => by simp [nsz]
  | x :: l => by have := nsz_len l; simp only [List.length_cons, nsz]; omega
theorem nsz_mem : ∀ (l : List ByteArray) (s : ByteArray), s ∈ l → s.size ≤ nsz l
  | x :: l, s, h => by
    simp only [nsz]
    rcases List.mem_cons.1 h with rfl | h
    · omega
    · have := nsz_mem l s h; omega
theorem Nm.below {w w' : World} {a : Option Addr} {n : Nat} {ss : List ByteArray} (h : Nm w a n ss) (hb : Below w.heap.size w w') : Nm w' a n ss := ⟨h.rd.below hb, h.len, h.sz⟩
theorem Nm.n63 {w : World} {a : Option Addr} {n : Nat} {ss : List ByteArray} (h : Nm w a n ss) : n ≤ 1000000000000 := by have := nsz_len ss; have := h.len; have := h.sz; omega
theorem Nm.mem {w : World} {a : Option Addr} {n : Nat} {ss : List ByteArray} (h : Nm w a n ss) (s : ByteArray) (hs : s ∈ ss) : s.size ≤ 1000000000000 := Nat.le_trans (nsz_mem ss s hs) h.sz
theorem nm_check {a : Option Addr} {n : Nat} {ss : List ByteArray} {w : World} (c : Nat) (h : Nm w a n ss) : Calls Tryz.prog 73 #[.slice a n c] w fun e w' => e = .returned (.int .i64 (nck ss)) ∧ w' = w :=
  refcheck_any a n c ss w h.rd h.len (by have := h.sz; omega) (by have := h.n63; omega) (fun s hs => by have := h.mem s hs; omega)
theorem nsz_drop (l : List ByteArray) (k : Nat) : nsz (l.drop k) ≤ nsz l := by
  induction l generalizing k with
  | nil => simp [nsz]
  | cons x l ih =>
    cases k with
    | zero => simp
    | succ k => simp only [List.drop_succ_cons, nsz]; have := ih k; omega
theorem Nm.cut {w : World} {a a' : Option Addr} {n : Nat} {ss : List ByteArray} (h : Nm w a n ss) (p : Nat) (ha : p < ss.length → ∀ b o, a = some ⟨b, o, none⟩ → a' = some ⟨b, o + p, none⟩) : Nm w a' (n - p) (ss.drop p) := by
  refine ⟨?_, by rw [List.length_drop, h.len], Nat.le_trans (nsz_drop ss p) h.sz⟩
  have := RdV.cut (w := w) (a := a) (xs := tv ss) h.rd p (tv ss).length (a' := a') (fun hp => ha (by rw [tv_len] at hp; exact hp))
  rw [List.take_of_length_le (by simp), tv_drop] at this
  exact this
theorem nck_small {ss : List ByteArray} (h : nck ss = 0) : nsz ss ≤ 255 ∧ labsOk ss := by
  unfold nck at h
  split at h
  · rename_i h1
    split at h
    · cases h
    · exact ⟨by omega, h1⟩
  · cases h
end Go.Proofs.YtfkfjodfjgjbkaaGreatDoor
namespace Go.Proofs.YtfkfjodfjgjbkaaGreatDoor
open Go.ChangeShapes Go.WideShapes Go.ChangeAt Go.RowKit
set_option linter.unusedVariables false
set_option linter.unusedSimpArgs false
/-- A label's text; the text of labels, a . behind each. -/
def tb (s : ByteArray) : ByteArray := ⟨(txt (tx (nums s))).toArray⟩
def ntxt (l : List ByteArray) : ByteArray := l.foldl (fun acc s => acc ++ tb s ++ ⟨#[46]⟩) ⟨#[]⟩
theorem ntxt_snoc (l : List ByteArray) (s : ByteArray) : ntxt (l ++ [s]) = ntxt l ++ tb s ++ ⟨#[46]⟩ := by simp [ntxt, List.foldl_append]
theorem tb_size (s : ByteArray) : (tb s).size ≤ 4 * s.size := by
  have := tx_len (nums s)
  rw [nums_len] at this
  show (txt (tx (nums s))).toArray.size ≤ _
  simp [txt]
  exact this
theorem ntxt_size (l : List ByteArray) : ∀ k, k ≤ l.length → (ntxt (l.take k)).size ≤ 4 * nsz l := by
  intro k
  induction k with
  | zero => intro _; exact Nat.zero_le _
  | succ k ih =>
    intro hk
    have hkl : k < l.length := by omega
    have h0 : ∀ j, j ≤ l.length → (ntxt (l.take j)).size ≤ 4 * nsz (l.take j) := by
      intro j
      induction j with
      | zero => intro _; exact Nat.zero_le _
      | succ j ihj =>
        intro hj
        have hjl : j < l.length := by omega
        rw [take_snocT l j hjl, ntxt_snoc, nsz_snoc, ByteArray.size_append, ByteArray.size_append]
        have := ihj (by omega)
        have := tb_size l[j]
        show _ + _ + 1 ≤ _
        omega
    have := h0 (k + 1) hk
    have := nsz_le l (k + 1)
    omega
/-- What Text answers. -/
def ntext (ss : List ByteArray) : ByteArray × Int := if nck ss = 0 then (if ss.length = 0 then (⟨#[46]⟩, 0) else (ntxt ss, 0)) else (⟨#[]⟩, nck ss)
set_option maxRecDepth 100000 in
set_option maxHeartbeats 1000000 in
theorem refntext_any (a : Option Addr) (n c : Nat) (ss : List ByteArray) (w : World) (h : Nm w a n ss) :
    Calls Tryz.prog 42 #[.slice a n c] w fun e w' => e = .returned (.tuple #[.string (ntext ss).1, .int .i64 (ntext ss).2]) ∧ Hid (Below w.heap.size w w') := by
  have KC : Hid (Calls Tryz.prog 73 #[.slice a n c] w fun e w' => e = .returned (.int .i64 (nck ss)) ∧ w' = w) := nm_check c h
  have HN : Hid (Nm w a n ss) := h
  have hn := h.n63
  have HL : Hid (ss.length = n) := h.len
  by_cases hk : nck ss = 0
  · rw [hk] at KC
    have hsm := (nck_small hk).1
    by_cases h0 : n = 0
    · have hp : ntext ss = (⟨#[46]⟩, 0) := by unfold ntext; rw [if_pos hk, if_pos (by rw [h.len]; exact h0)]
      rw [hp]
      subst h0
      clear h hk hp
      go_enter Tryz.func42, Tryz.ntmps42
      go_wp2_with fail
      refine KC.out.mono ?_
      rintro e w1 ⟨rfl, rfl⟩
      go_wp2
      go_ret2
      exact ⟨rfl, Below.refl _ _⟩
    · have hp : ntext ss = (ntxt ss, 0) := by unfold ntext; rw [if_pos hk, if_neg (by rw [h.len]; exact h0)]
      rw [hp]
      have h0' : ((n : Int) == 0) = false := by simp; omega
      have HSZ : Hid (∀ k, k ≤ ss.length → (ntxt (ss.take k)).size ≤ 1020) := fun k hk => by have := ntxt_size ss k hk; omega
      obtain ⟨R, hR⟩ : ∃ R, ntxt ss = R := ⟨_, rfl⟩
      have HRR : Hid (ntxt ss = R) := hR
      rw [hR]
      clear h hk hp hR
      go_enter Tryz.func42, Tryz.ntmps42
      go_wp2_with fail
      refine KC.out.mono ?_
      rintro e w1 ⟨rfl, rfl⟩
      go_wp2_with fail
      go_loopw [5, 6] (fun v x wr => ∃ (k : Nat) (t : ByteArray), k ≤ n ∧ x = .int .i64 k ∧ v = .string t ∧ t.size ≤ 1020 ∧ Hid (ntxt (ss.take k) = t) ∧ Hid (Below w1.heap.size w1 wr)) (fun _ x _ => n - (intOf x).toNat)
      case atStart => exact ⟨0, ⟨#[]⟩, Nat.zero_le _, rfl, rfl, by decide, rfl, Below.refl _ _⟩
      case round =>
        obtain ⟨k, t, hkn, rfl, rfl, htz, HT, HB⟩ := hrel
        by_cases hlt : k < n
        · have hlt' : (k : Int) < (n : Int) := by omega
          have hks : k < ss.length := by rw [HL.out]; exact hlt
          obtain ⟨b, o, rfl, hb, hc⟩ := (HN.out.below HB.out).rd.at k hks
          have hsz := Nat.le_trans (nsz_mem ss _ (List.getElem_mem hks)) hsm
          have HT2 : Hid (ntxt (ss.take (k + 1)) = t ++ tb ss[k] ++ ⟨#[46]⟩) := by show _ = _; rw [take_snocT ss k hks, ntxt_snoc, HT.out]
          have hz2 := HSZ.out (k + 1) (by omega)
          rw [HT2.out] at hz2
          have KT : Hid (∀ W, Calls Tryz.prog 78 #[.string ss[k]] W fun e w' => e = .returned (.string (tb ss[k])) ∧ Hid (Below W.heap.size W w')) := fun W => rtext_any ss[k] W (by omega)
          have htb : (tb ss[k]).size ≤ 1020 := by have := tb_size ss[k]; omega
          generalize tb ss[k] = f at *
          generalize ss[k] = s at *
          go_wp2_with fail
          refine (KT.out _).mono ?_
          rintro e w2 ⟨rfl, H2⟩
          clear hc KT
          go_wp2
          refine ⟨⟨k + 1, _, by omega, by go_num, rfl, hz2, HT2, HB.out.trans (H2.out.mono HB.out.size)⟩, by simp [intOf]; omega⟩
        · have hge : (n : Int) ≤ (k : Int) := by omega
          have e : t = R := by rw [← HT.out, ← HRR.out, List.take_of_length_le (by rw [HL.out]; omega)]
          subst e
          go_wp2
          go_ret2
          exact ⟨rfl, HB.out⟩
  · have hp : ntext ss = (⟨#[]⟩, nck ss) := by unfold ntext; rw [if_neg hk]
    rw [hp]
    generalize nck ss = q at *
    have hq : (q != 0) = true := bne_iff_ne.2 hk
    clear h hk hp
    go_enter Tryz.func42, Tryz.ntmps42
    go_wp2_with fail
    refine KC.out.mono ?_
    rintro e w1 ⟨rfl, rfl⟩
    go_wp2
    go_ret2
    exact ⟨rfl, Below.refl _ _⟩
theorem Own.all {B : Nat} {w : World} {v : Value} {n : Nat} {zs : List Int} (h : Own B w v n zs) : ∀ z ∈ zs, 0 ≤ z ∧ z ≤ 255 := by
  rcases h with ⟨_, _, rfl⟩ | ⟨g, _, _, hb, _⟩
  · simp
  · exact hb.2
/-- The bytes of labels, each with its length ahead. -/
def nby (l : List ByteArray) : List Int := l.flatMap fun s => (s.size : Int) :: nums s
theorem nby_len (l : List ByteArray) : (nby l).length + 1 = nsz l := by
  induction l with
  | nil => simp [nby, nsz]
  | cons x l ih => simp only [nby, List.flatMap_cons, List.length_append, List.length_cons, nums_len, nsz] at ih ⊢; omega
end Go.Proofs.YtfkfjodfjgjbkaaGreatDoor
namespace Go.Proofs.YtfkfjodfjgjbkaaGreatDoor
open Go.ChangeShapes Go.WideShapes Go.ChangeAt Go.RowKit
set_option linter.unusedVariables false
set_option linter.unusedSimpArgs false
/-- A label out of bytes. -/
def lb (l : List Int) : ByteArray := ⟨(txt l).toArray⟩
theorem lb_size (l : List Int) : (lb l).size = l.length := txt_size l
end Go.Proofs.YtfkfjodfjgjbkaaGreatDoor
namespace Go.Proofs.YtfkfjodfjgjbkaaGreatDoor
open Go.ChangeShapes Go.WideShapes Go.ChangeAt Go.RowKit
set_option linter.unusedVariables false
set_option linter.unusedSimpArgs false
/-- The labels from a place of bytes on, and the place behind them; none, if no name's bytes stand there. -/
def rgo (l : List Int) (p : Nat) (out : List ByteArray) : Option (List ByteArray × Nat) :=
  if h : p < l.length ∧ l.getD p 0 ≤ 63 then
    if l.getD p 0 = 0 then some (out, p + 1)
    else if (l.length : Int) - ((p : Int) + 1) < l.getD p 0 then none
    else rgo l (p + 1 + (l.getD p 0).toNat) (out ++ [lb ((l.drop (p + 1)).take (l.getD p 0).toNat)])
  else none
termination_by l.length - p
decreasing_by omega
def nread (l : List Int) (d : Int) : List ByteArray × Int × Int :=
  if d < 0 ∨ (l.length : Int) ≤ d then ([], 0, 2)
  else match rgo l d.toNat [] with
    | none => ([], 0, 8)
    | some (out, q) => if nck out = 0 then (out, (q : Int), 0) else ([], 0, 8)
theorem rgo_end (l : List Int) (p : Nat) (out : List ByteArray) (h : ¬ (p < l.length ∧ l.getD p 0 ≤ 63)) : rgo l p out = none := by rw [rgo, dif_neg h]
theorem rgo_zero (l : List Int) (p : Nat) (out : List ByteArray) (h : p < l.length ∧ l.getD p 0 ≤ 63) (h0 : l.getD p 0 = 0) : rgo l p out = some (out, p + 1) := by rw [rgo, dif_pos h, if_pos h0]
theorem rgo_short (l : List Int) (p : Nat) (out : List ByteArray) (h : p < l.length ∧ l.getD p 0 ≤ 63) (h0 : ¬ l.getD p 0 = 0) (h1 : (l.length : Int) - ((p : Int) + 1) < l.getD p 0) : rgo l p out = none := by rw [rgo, dif_pos h, if_neg h0, if_pos h1]
theorem rgo_step (l : List Int) (p : Nat) (out : List ByteArray) (h : p < l.length ∧ l.getD p 0 ≤ 63) (h0 : ¬ l.getD p 0 = 0) (h1 : ¬ (l.length : Int) - ((p : Int) + 1) < l.getD p 0) : rgo l p out = rgo l (p + 1 + (l.getD p 0).toNat) (out ++ [lb ((l.drop (p + 1)).take (l.getD p 0).toNat)]) := by
  rw [rgo, dif_pos h, if_neg h0, if_neg h1]
end Go.Proofs.YtfkfjodfjgjbkaaGreatDoor
namespace Go.Proofs.YtfkfjodfjgjbkaaGreatDoor
open Go.ChangeShapes Go.WideShapes Go.ChangeAt Go.RowKit
set_option linter.unusedVariables false
set_option linter.unusedSimpArgs false
theorem nums_back (l : List Int) (h : ∀ z ∈ l, 0 ≤ z ∧ z ≤ 255) : nums ⟨(txt l).toArray⟩ = l := by
  unfold nums txt
  simp only [List.map_map]
  conv => rhs; rw [← List.map_id l]
  apply List.map_congr_left
  intro z hz
  have := h z hz
  simp
  omega
end Go.Proofs.YtfkfjodfjgjbkaaGreatDoor
namespace Go.Proofs.YtfkfjodfjgjbkaaGreatDoor
open Go.ChangeShapes Go.WideShapes Go.ChangeAt Go.RowKit
set_option linter.unusedVariables false
set_option linter.unusedSimpArgs false
theorem chk_ok {n : Nat} (h : chk n = 0) : 1 ≤ n ∧ n ≤ 63 := by
  unfold chk at h
  split at h
  · assumption
  · cases h
end Go.Proofs.YtfkfjodfjgjbkaaGreatDoor
namespace Go.Proofs.YtfkfjodfjgjbkaaGreatDoor
open Go.ChangeShapes Go.WideShapes Go.ChangeAt Go.RowKit
set_option linter.unusedVariables false
set_option linter.unusedSimpArgs false
/-- Data: names, numbers, texts, bytes. -/
structure Dat where
  ns : List (List ByteArray)
  us : List Nat
  ts : List ByteArray
  raw : List Int
/-- What data of a type have: names, numbers, texts (-1: one or more), bytes (-1: any), a number's bytes. -/
structure Shp where
  nn : Nat
  nu : Nat
  nt : Int
  nr : Int
  wd : Nat
def shp (t : Nat) : Shp :=
  if t = 1 then ⟨0, 0, 0, 4, 0⟩ else if t = 28 then ⟨0, 0, 0, 16, 0⟩ else if t = 2 ∨ t = 5 ∨ t = 12 then ⟨1, 0, 0, 0, 0⟩ else if t = 6 then ⟨2, 5, 0, 0, 4⟩ else
  if t = 15 then ⟨1, 1, 0, 0, 2⟩ else if t = 33 then ⟨1, 3, 0, 0, 2⟩ else if t = 16 then ⟨0, 0, -1, 0, 0⟩ else if t = 257 then ⟨0, 1, 2, 0, 1⟩ else ⟨0, 0, 0, -1, 0⟩
def mayT (t : Nat) : Bool := decide (t ≠ 0) && (decide (t < 128) || decide (255 < t))
def most (wd : Nat) : Nat := if wd = 1 then 255 else if wd = 2 then 65535 else 4294967295
def alnum (z : Int) : Bool := (decide (97 ≤ z) && decide (z ≤ 122)) || (decide (65 ≤ z) && decide (z ≤ 90)) || (decide (48 ≤ z) && decide (z ≤ 57))
def tagB (s : ByteArray) : Bool := decide (1 ≤ s.size) && decide (s.size ≤ 15) && (nums s).all alnum
def fitsB (t : Nat) (d : Dat) : Bool :=
  decide (d.ns.length = (shp t).nn) && decide (d.us.length = (shp t).nu) && (decide ((shp t).nt < 0) || decide ((d.ts.length : Int) = (shp t).nt)) && (decide (0 ≤ (shp t).nt) || decide (d.ts.length ≠ 0)) &&
  (decide ((shp t).nr < 0) || decide ((d.raw.length : Int) = (shp t).nr)) && d.us.all (fun n => decide (n ≤ most (shp t).wd)) && (decide (t ≠ 16) || d.ts.all (fun s => decide (s.size ≤ 255))) && (decide (t ≠ 257) || tagB (d.ts.getD 0 ⟨#[]⟩))
/-- How many bytes texts have, with their lengths. -/
def tsz (t : Nat) (l : List ByteArray) : Nat := if t = 16 then (nby l).length else (match l with | [] => 0 | s :: r => s.size + 1 + (r.flatMap nums).length)
def sizesF (t : Nat) (d : Dat) : Nat := d.raw.length + d.us.length * (shp t).wd + (d.ns.map nsz).sum + tsz t d.ts
/-- The first error of names. -/
def nsErr : List (List ByteArray) → Int
  | [] => 0
  | n :: r => if nck n = 0 then nsErr r else nck n
def checkF (t : Nat) (d : Dat) : Int := if mayT t then (if fitsB t d then (if nsErr d.ns = 0 then (if 65535 < sizesF t d then 3 else 0) else nsErr d.ns) else 7) else 6
/-- A number in so many bytes. -/
def numB (n wd : Nat) : List Int := if wd = 1 then [(n : Int)] else if wd = 2 then [((n / 256 : Nat) : Int), ((n % 256 : Nat) : Int)] else [((n / 16777216 : Nat) : Int), ((n / 65536 % 256 : Nat) : Int), ((n / 256 % 256 : Nat) : Int), ((n % 256 : Nat) : Int)]
/-- A name's bytes. -/
def nmB (n : List ByteArray) : List Int := nby n ++ [0]
end Go.Proofs.YtfkfjodfjgjbkaaGreatDoor
namespace Go.Proofs.YtfkfjodfjgjbkaaGreatDoor
open Go.ChangeShapes Go.WideShapes Go.ChangeAt Go.RowKit
set_option linter.unusedVariables false
set_option linter.unusedSimpArgs false
theorem nsErr_all : ∀ l : List (List ByteArray), nsErr l = 0 ↔ ∀ n ∈ l, nck n = 0
  | [] => by simp [nsErr]
  | n :: r => by
    have ih := nsErr_all r
    unfold nsErr
    by_cases h : nck n = 0
    · rw [if_pos h, ih]; simp [h]
    · rw [if_neg h]; simp [h]
theorem check_parts {t : Nat} {d : Dat} (h : checkF t d = 0) : mayT t = true ∧ fitsB t d = true ∧ (∀ n ∈ d.ns, nck n = 0) ∧ sizesF t d ≤ 65535 := by
  unfold checkF at h
  split at h
  · rename_i h1
    split at h
    · rename_i h2
      split at h
      · rename_i h3
        split at h
        · cases h
        · rename_i h4
          exact ⟨h1, h2, (nsErr_all _).1 h3, by omega⟩
      · rename_i h3; exact absurd h h3
    · cases h
  · cases h
theorem len1 {α : Type} {l : List α} (h : l.length = 1) : ∃ a, l = [a] := List.length_eq_one_iff.1 h
theorem len2 {α : Type} {l : List α} (h : l.length = 2) : ∃ a b, l = [a, b] := by
  match l, h with
  | [a, b], _ => exact ⟨a, b, rfl⟩
theorem len3 {α : Type} {l : List α} (h : l.length = 3) : ∃ a b c, l = [a, b, c] := by
  match l, h with
  | [a, b, c], _ => exact ⟨a, b, c, rfl⟩
/-- The eleven ways of a type. -/
theorem shp_cases (t : Nat) : (t = 1 ∧ shp t = ⟨0, 0, 0, 4, 0⟩) ∨ (t = 28 ∧ shp t = ⟨0, 0, 0, 16, 0⟩) ∨ ((t = 2 ∨ t = 5 ∨ t = 12) ∧ shp t = ⟨1, 0, 0, 0, 0⟩) ∨ (t = 6 ∧ shp t = ⟨2, 5, 0, 0, 4⟩) ∨ (t = 15 ∧ shp t = ⟨1, 1, 0, 0, 2⟩) ∨ (t = 33 ∧ shp t = ⟨1, 3, 0, 0, 2⟩) ∨ (t = 16 ∧ shp t = ⟨0, 0, -1, 0, 0⟩) ∨ (t = 257 ∧ shp t = ⟨0, 1, 2, 0, 1⟩) ∨
    ((t ≠ 1 ∧ t ≠ 28 ∧ t ≠ 2 ∧ t ≠ 5 ∧ t ≠ 12 ∧ t ≠ 6 ∧ t ≠ 15 ∧ t ≠ 33 ∧ t ≠ 16 ∧ t ≠ 257) ∧ shp t = ⟨0, 0, 0, -1, 0⟩) := by
  by_cases h1 : t = 1
  · subst h1; left; exact ⟨rfl, rfl⟩
  by_cases h2 : t = 28
  · subst h2; right; left; exact ⟨rfl, rfl⟩
  by_cases h3 : t = 2 ∨ t = 5 ∨ t = 12
  · right; right; left; refine ⟨h3, ?_⟩; rcases h3 with rfl | rfl | rfl <;> rfl
  by_cases h4 : t = 6
  · subst h4; right; right; right; left; exact ⟨rfl, rfl⟩
  by_cases h5 : t = 15
  · subst h5; right; right; right; right; left; exact ⟨rfl, rfl⟩
  by_cases h6 : t = 33
  · subst h6; right; right; right; right; right; left; exact ⟨rfl, rfl⟩
  by_cases h7 : t = 16
  · subst h7; right; right; right; right; right; right; left; exact ⟨rfl, rfl⟩
  by_cases h8 : t = 257
  · subst h8; right; right; right; right; right; right; right; left; exact ⟨rfl, rfl⟩
  · right; right; right; right; right; right; right; right
    refine ⟨⟨h1, h2, fun e => h3 (.inl e), fun e => h3 (.inr (.inl e)), fun e => h3 (.inr (.inr e)), h4, h5, h6, h7, h8⟩, ?_⟩
    unfold shp
    rw [if_neg h1, if_neg h2, if_neg h3, if_neg h4, if_neg h5, if_neg h6, if_neg h7, if_neg h8]
end Go.Proofs.YtfkfjodfjgjbkaaGreatDoor
namespace Go.Proofs.YtfkfjodfjgjbkaaGreatDoor
open Go.ChangeShapes Go.WideShapes Go.ChangeAt Go.RowKit
set_option linter.unusedVariables false
set_option linter.unusedSimpArgs false
set_option maxRecDepth 100000 in
set_option maxHeartbeats 400000 in
theorem same_yes (a b : Option Addr) (n c d : Nat) (zs : List Int) (w : World) (hr : Rd w a zs) (hr' : Rd w b zs) (hl : zs.length = n) :
    Calls Tryz.prog 33 #[.slice a n c, .slice b n d] w fun e w' => e = .returned (.bool true) ∧ w' = w := by
  have h1 := conv_rd a n c zs w hr hl
  have h2 := conv_rd b n d zs w hr' hl
  clear hr hr'
  generalize txt zs = t at *
  go_enter Tryz.func33, Tryz.ntmps33
  go_wp2
  go_ret
  exact ⟨rfl, rfl⟩
/-- The marks behind a list that is lent. -/
def marks (n : Nat) : List Int := [160 + (n : Int) % 90, 160 + ((n : Int) + 1) % 90, 160 + ((n : Int) + 2) % 90]
def lent (zs : List Int) (k : Nat) : List Int := zs ++ (marks zs.length).take k ++ List.replicate (3 - k) 0
theorem lent_len (zs : List Int) (k : Nat) (h : k ≤ 3) : (lent zs k).length = zs.length + 3 := by
  simp [lent, marks]; omega
theorem lent_step (zs : List Int) (k : Nat) (h : k < 3) : (lent zs k).set (zs.length + k) (160 + ((zs.length : Int) + k) % 90) = lent zs (k + 1) := by
  have : k = 0 ∨ k = 1 ∨ k = 2 := by omega
  rcases this with rfl | rfl | rfl <;> simp [lent, marks, List.replicate]
theorem lent_zero (zs : List Int) : lent zs 0 = zs ++ [0, 0, 0] := by simp [lent, List.replicate]
theorem lent_take (zs : List Int) (k : Nat) : (lent zs k).take zs.length = zs := by simp [lent]
set_option maxRecDepth 100000 in
set_option maxHeartbeats 800000 in
theorem lent_any (a : Option Addr) (cap : Nat) (zs : List Int) (w : World) (hr : Rd w a zs) (hd : a = none → cap = 0) (hm : zs.length ≤ 140737488355328) :
    Calls Tryz.prog 10 #[.slice a zs.length cap] w fun e w' => e = .returned (.slice (some ⟨w.heap.size, 0, none⟩) zs.length (zs.length + 3)) ∧ Blk w' w.heap.size (lent zs 3) ∧ w'.heap.size = w.heap.size + 1 ∧ Below w.heap.size w w' := by
  have HR : Hid (Rd w a zs) := hr
  have HD : Hid (a = none → cap = 0) := hd
  clear hr hd
  obtain ⟨len, hlen⟩ : ∃ len, len = zs.length := ⟨_, rfl⟩
  rw [← hlen] at hm ⊢
  have HL : Hid (len = zs.length) := hlen
  clear hlen
  have hW1 : Blk (w.alloc (.cells (Array.replicate (len + 3) (Value.int .u8 0)) 5)) w.heap.size (List.replicate (len + 3) 0) := by
    refine ⟨?_, fun z hz => ?_⟩
    · rw [heap_alloc_new]; simp
    · rw [(List.mem_replicate.1 hz).2]; omega
  have hb1 : Below w.heap.size w (w.alloc (.cells (Array.replicate (len + 3) (Value.int .u8 0)) 5)) := (Below.refl _ _).alloc (Nat.le_refl _) _
  obtain ⟨W2, hcp, hblk, hsz, hbel⟩ : ∃ W2, (Builtin.copy_ #[27, 27] 3 #[.slice (some ⟨w.heap.size, 0, none⟩) (len + 3) (len + 3), .slice a len cap]).run Tryz.prog (w.alloc (.cells (Array.replicate (len + 3) (Value.int .u8 0)) 5)) = .ok (.int .i64 len) W2 ∧ Hid (Blk W2 w.heap.size (lent zs 0)) ∧ W2.heap.size = w.heap.size + 1 ∧ Below w.heap.size w W2 := by
    refine ⟨_, run_copy_blk _ 3 w.heap.size (len + 3) (len + 3) _ hW1 a len cap zs (HR.out.below hb1) HL.out.symm (by omega) (by simp) HD.out, ?_, ?_, ?_⟩
    · have e : zs ++ (List.replicate (len + 3) (0 : Int)).drop len = lent zs 0 := by
        rw [lent_zero, List.drop_replicate, Nat.add_sub_cancel_left]; rfl
      refine ⟨by rw [setRow_heap _ _ _ _ 5 _ hW1.1, e], fun z hz => ?_⟩
      rw [lent_zero] at hz
      simp only [List.mem_append, List.mem_cons, List.not_mem_nil, or_false, or_self] at hz
      rcases hz with hz | rfl
      · exact HR.out.2 z hz
      · omega
    · simp [World.setRow]
    · exact below_setRow hb1 (Nat.le_refl _) _
  clear hW1 hb1
  go_enter Tryz.func10, Tryz.ntmps10
  go_wp2_with (at_make; refine wpList_make_blk _ rfl _ _ rfl (len + 3) (len + 3) _ _ rfl rfl (by omega) (by omega) (by omega) (by omega) ?_)
  clear hcp
  go_loopw [4] (fun i wr => ∃ k : Nat, k ≤ 3 ∧ i = .int .i64 (len + k : Nat) ∧ Hid (Blk wr w.heap.size (lent zs k)) ∧ wr.heap.size = w.heap.size + 1 ∧ Below w.heap.size w wr) (fun i _ => (len + 3 - (intOf i).toNat))
  case atStart => exact ⟨0, by omega, rfl, hblk, hsz, hbel⟩
  case round =>
    obtain ⟨k, hk, rfl, hB, hz, hbl⟩ := hrel
    by_cases hlt : k < 3
    · have hc := hB.out.cell (len + k) (by rw [lent_len _ _ hk, ← HL.out]; omega)
      have hf := hB.out.frozen (len + k)
      have h1 : ((len + k : Nat) : Int) < (len : Int) + 3 := by omega
      clear hblk hsz hbel
      go_wp2
      refine ⟨⟨k + 1, by omega, by go_num, ?_, ?_, ?_⟩, by simp [intOf]; omega⟩
      · have hst := hB.out.stored (len + k) (160 + ((len : Int) + (k : Int)) % 90) (by omega)
        have e := lent_step zs k hlt
        rw [← HL.out] at e
        rw [e] at hst
        exact hst
      · rw [← hz]; simp [World.setCell]
      · exact hbl.setCell (Nat.le_refl _) _
    · obtain rfl : k = 3 := by omega
      go_wp2
      go_ret
      exact ⟨rfl, hB.out, hz, hbl⟩
/-- A new list of bytes out of 'append([]byte{}, b...)'. -/
theorem empty_own (w : World) : Own w.heap.size (w.alloc (.cells #[] 5)) (.slice (some ⟨w.heap.size, 0, none⟩) 0 0) 0 [] :=
  .inr ⟨w.heap.size, rfl, Nat.le_refl _, ⟨by rw [heap_alloc_new]; rfl, by simp⟩, Nat.le_refl _, Nat.zero_le _⟩
set_option maxRecDepth 100000 in
set_option maxHeartbeats 800000 in
theorem copy_any (a : Option Addr) (cap : Nat) (zs : List Int) (w : World) (hr : Rd w a zs) (hd : a = none → cap = 0) (hm : zs.length ≤ 140737488355328) :
    Calls Tryz.prog 35 #[.slice a zs.length cap] w fun e w' => ∃ v ys, e = .returned v ∧ Own w.heap.size w' v zs.length ys ∧ ys.take zs.length = zs ∧ Below w.heap.size w w' := by
  have HR : Hid (Rd w a zs) := hr
  have HD : Hid (a = none → cap = 0) := hd
  clear hr hd
  obtain ⟨len, hlen⟩ : ∃ len, len = zs.length := ⟨_, rfl⟩
  rw [← hlen] at hm ⊢
  have HL : Hid (len = zs.length) := hlen
  clear hlen
  have hb1 : Below w.heap.size w (w.alloc (.cells #[] 5)) := (Below.refl _ _).alloc (Nat.le_refl _) _
  go_enter Tryz.func35, Tryz.ntmps35
  go_wp2_with (at_builtin; refine wpList_append_blk _ rfl _ _ rfl w.heap.size _ 0 [] rfl (empty_own w) a len cap zs rfl (HR.out.below hb1) HL.out.symm HD.out (by omega) (by simp) ?_; intro v' w' zs' hO hT hG)
  go_ret
  refine ⟨v', zs', rfl, ?_, ?_, ?_⟩
  · have h := hO.out
    rw [Nat.zero_add] at h
    exact h
  · have h := hT.out
    rw [Nat.zero_add] at h
    simpa using h
  · refine hb1.grown hG (by simp) ?_
    intro k hk
    have e : w.heap.size = k := Option.some.inj hk
    omega
/-- What writing over a byte makes of it. -/
def x90 (z : Int) : Int := bits .xor .u8 z 90
def over (zs : List Int) (k : Nat) : List Int := (zs.take k).map x90 ++ zs.drop k
/-- A list's address, its length, what its block holds. -/
abbrev Elem := Option Addr × Nat × List Int
/-- The lists lie one behind the other in the block L, each in a block of its own from B on. -/
def Lie (B : Nat) (w : World) (L : Nat) (es : List Elem) : Prop :=
  L < w.heap.size ∧ ∀ k (h : k < es.length), w.cell? ⟨L, k, none⟩ = some (.slice es[k].1 es[k].2.1 es[k].2.2.length) ∧ OwnA B w es[k].1 es[k].2.1 es[k].2.2
/-- No two of them share a block, and none lies in the block L. -/
def Apart (L : Nat) (es : List Elem) : Prop :=
  (∀ k (h : k < es.length), blk es[k].1 ≠ some L) ∧ ∀ j k (hj : j < es.length) (hk : k < es.length), j ≠ k → ∀ g, blk es[j].1 = some g → blk es[k].1 ≠ some g
theorem Lie.below {B : Nat} {w w' : World} {L : Nat} {es : List Elem} (h : Lie B w L es) (hb : Below w.heap.size w w') : Lie B w' L es :=
  ⟨Nat.lt_of_lt_of_le h.1 hb.size, fun k hk => ⟨(hb.cell (p := ⟨L, k, none⟩) h.1).trans (h.2 k hk).1, (h.2 k hk).2.below hb⟩⟩
theorem Apart.set {L : Nat} {es : List Elem} (ha : Apart L es) (i : Nat) (hi : i < es.length) (zs : List Int) : Apart L (es.set i (es[i].1, es[i].2.1, zs)) := by
  have key : ∀ k (h : k < (es.set i (es[i].1, es[i].2.1, zs)).length), (es.set i (es[i].1, es[i].2.1, zs))[k].1 = (es[k]'(by simpa using h)).1 := by
    intro k h
    by_cases e : i = k
    · subst e; simp
    · rw [List.getElem_set_ne e]
  refine ⟨fun k hk => by rw [key]; exact ha.1 k (by simpa using hk), fun j k hj hk hne g => ?_⟩
  rw [key, key]; exact ha.2 j k (by simpa using hj) (by simpa using hk) hne g
/-- Copies of the lists' whole blocks, the first m of them, in blocks from S + 1 on, one behind the other in the block S. -/
def Copies (S : Nat) (w : World) (es : List Elem) (m : Nat) : Prop :=
  S < w.heap.size ∧ (∀ k, k < es.length → (∃ u, w.cell? ⟨S, k, none⟩ = some u) ∧ w.frozen? ⟨S, k, none⟩ = false) ∧
  ∀ k (h : k < es.length), k < m → ∃ ao c, w.cell? ⟨S, k, none⟩ = some (.slice ao es[k].2.2.length c) ∧ Rd w ao es[k].2.2 ∧ ∀ b o, ao = some ⟨b, o, none⟩ → S < b
theorem Copies.below {S : Nat} {w w' : World} {es : List Elem} {m : Nat} (h : Copies S w es m) (hb : Below w.heap.size w w') : Copies S w' es m := by
  refine ⟨Nat.lt_of_lt_of_le h.1 hb.size, fun k hk => ?_, fun k hk hm => ?_⟩
  · rw [hb.cell (p := ⟨S, k, none⟩) h.1, hb.frozen (p := ⟨S, k, none⟩) h.1]; exact h.2.1 k hk
  · obtain ⟨ao, c, h1, h2, h3⟩ := h.2.2 k hk hm
    exact ⟨ao, c, (hb.cell (p := ⟨S, k, none⟩) h.1).trans h1, h2.below hb, h3⟩
theorem Apart.of {L : Nat} {es : List Elem} (h1 : ∀ e ∈ es, blk e.1 ≠ some L) (h2 : es.Pairwise fun e f => ∀ g, blk e.1 = some g → blk f.1 ≠ some g) : Apart L es := by
  refine ⟨fun k hk => h1 _ (List.getElem_mem hk), fun j k hj hk hne g h3 h4 => ?_⟩
  rcases Nat.lt_or_gt_of_ne hne with h | h
  · exact List.pairwise_iff_getElem.1 h2 j k hj hk h g h3 h4
  · exact List.pairwise_iff_getElem.1 h2 k j hk hj h g h4 h3
theorem Lie.of {B L : Nat} {w : World} {es : List Elem} (hL : L < w.heap.size) (hc : ∀ k (h : k < es.length), w.cell? ⟨L, k, none⟩ = some (.slice es[k].1 es[k].2.1 es[k].2.2.length)) (ho : ∀ e ∈ es, OwnA B w e.1 e.2.1 e.2.2) : Lie B w L es :=
  ⟨hL, fun k hk => ⟨hc k hk, ho _ (List.getElem_mem hk)⟩⟩
set_option maxRecDepth 100000 in
set_option maxHeartbeats 400000 in
theorem kept_at (g : Nat) (a : Option Addr) (cap len c : Nat) (zs : List Int) (w : World) (hl : zs.length = len) (hb : Blk w g (lent zs 3)) (hr : Rd w a zs) (hd : a = none → cap = 0) (hm : len ≤ 140737488355328) (hc : len ≤ cap) (he : c = len + 3) :
    Calls Tryz.prog 22 #[.slice (some ⟨g, 0, none⟩) len c, .slice a len cap] w fun e w' => e = .returned (.bool true) ∧ Below w.heap.size w w' := by
  have HL : Hid (zs.length = len) := hl
  have HB : Hid (Blk w g (lent zs 3)) := hb
  have HR : Hid (Rd w a zs) := hr
  have HD : Hid (a = none → cap = 0) := hd
  have HE : Hid (c = len + 3) := he
  have hle : (len : Int) + 3 ≤ (c : Int) := by omega
  have hcm : c ≤ 140737488355331 := by omega
  have HX : Hid (∀ W : World, Rd W a zs → Calls Tryz.prog 10 #[.slice a len cap] W fun e w' => e = .returned (.slice (some ⟨W.heap.size, 0, none⟩) len c) ∧ Blk w' W.heap.size (lent zs 3) ∧ w'.heap.size = W.heap.size + 1 ∧ Below W.heap.size W w') := by
    intro W hW
    have := lent_any a cap zs W hW hd (by rw [hl]; exact hm)
    rw [hl, ← he] at this
    exact this
  have HY : Hid (∀ (W : World) (g' m : Nat), m = len + 3 → Blk W g (lent zs 3) → Blk W g' (lent zs 3) → Calls Tryz.prog 33 #[.slice (some ⟨g, 0, none⟩) c c, .slice (some ⟨g', 0, none⟩) m c] W fun e w' => e = .returned (.bool true) ∧ w' = W) := by
    intro W g' m h0 h1 h2
    subst h0
    have hlen : (lent zs 3).length = len + 3 := by rw [lent_len _ _ (Nat.le_refl _), hl]
    have t1 := h1.rd (len + 3)
    have t2 := h2.rd (len + 3)
    rw [List.take_of_length_le (by rw [hlen]; exact Nat.le_refl _)] at t1 t2
    have := same_yes _ _ _ c c _ W t1 t2 hlen
    rw [← he] at this ⊢
    exact this
  have hw : IntKind.i64.wrap ((len : Int) + 3) = (len : Int) + 3 := by rw [IntKind.wrap_i64]; omega
  have hnn : (0 : Int) ≤ (len : Int) + 3 := by omega
  clear hl hb hr hd he
  go_enter Tryz.func22, Tryz.ntmps22
  go_wp2
  go_region_held3 (fun _ => True) (trivial) (first
    | (go_at_call 10; refine (HX.out _ ?_).mono ?_; exact HR.out.drew; rintro e w1 ⟨rfl, hb1, hs1, hbel1⟩)
    | (go_at_call 33; refine (HY.out _ _ _ ?_ ?_ ?_).mono ?_; omega; exact HB.out.drew.below hbel1; exact hb1; rintro e w2 ⟨rfl, rfl⟩))
  go_wp2
  go_ret
  exact ⟨rfl, (Below.refl _ _).drew.trans hbel1⟩
theorem kept_yes (g : Nat) (a : Option Addr) (cap len : Nat) (zs : List Int) (w : World) (hl : zs.length = len) (hb : Blk w g (lent zs 3)) (hr : Rd w a zs) (hd : a = none → cap = 0) (hm : len ≤ 140737488355328) (hc : len ≤ cap) :
    Calls Tryz.prog 22 #[.slice (some ⟨g, 0, none⟩) len (len + 3), .slice a len cap] w fun e w' => e = .returned (.bool true) ∧ Below w.heap.size w w' :=
  kept_at g a cap len (len + 3) zs w hl hb hr hd hm hc rfl
theorem Copies.stored {S : Nat} {w : World} {es : List Elem} {m : Nat} (h : Copies S w es m) (hm : m < es.length) (ao : Option Addr) (c : Nat) (hr : Rd w ao es[m].2.2) (hb : ∀ b o, ao = some ⟨b, o, none⟩ → S < b) :
    Copies S (w.setCell ⟨S, m, none⟩ (.slice ao es[m].2.2.length c)) es (m + 1) := by
  have hsz : (w.setCell ⟨S, m, none⟩ (.slice ao es[m].2.2.length c)).heap.size = w.heap.size := by simp [World.setCell]
  have hoth : ∀ b, S < b → (w.setCell ⟨S, m, none⟩ (.slice ao es[m].2.2.length c)).heap[b]? = w.heap[b]? := fun b hb => Below.heap_setCell _ _ _ b (by show b ≠ S; omega)
  have rdk : ∀ (a' : Option Addr) (zs : List Int), Rd w a' zs → (∀ b o, a' = some ⟨b, o, none⟩ → S < b) → Rd (w.setCell ⟨S, m, none⟩ (.slice ao es[m].2.2.length c)) a' zs :=
    fun a' zs h1 h2 => h1.of_blocks (by rw [hsz]; exact Nat.le_refl _) fun b o e => hoth b (h2 b o e)
  obtain ⟨⟨u, hu⟩, hf⟩ := h.2.1 m hm
  have hat : ∀ k, (w.setCell ⟨S, m, none⟩ (.slice ao es[m].2.2.length c)).cell? ⟨S, k, none⟩ = if k = m then some (.slice ao es[m].2.2.length c) else w.cell? ⟨S, k, none⟩ := by
    intro k
    by_cases e : k = m
    · subst e; rw [if_pos rfl]; exact World.cell?_setCell_same _ _ _ hu
    · rw [if_neg e]; exact World.cell?_setCell_other _ _ _ _ (by intro e'; injection e' with _ e' _; exact e e'.symm)
  refine ⟨by rw [hsz]; exact h.1, fun k hk => ⟨?_, ?_⟩, fun k hk hkm => ?_⟩
  · rw [hat]
    by_cases e : k = m
    · exact ⟨_, if_pos e⟩
    · rw [if_neg e]; exact (h.2.1 k hk).1
  · rw [World.frozen?_setCell]; exact (h.2.1 k hk).2
  · by_cases e : k = m
    · subst e
      exact ⟨ao, c, by rw [hat, if_pos rfl], rdk _ _ hr hb, hb⟩
    · obtain ⟨a', c', h1, h2, h3⟩ := h.2.2 k hk (by omega)
      exact ⟨a', c', by rw [hat, if_neg e]; exact h1, rdk _ _ h2 h3, h3⟩
theorem Lie.stored {B : Nat} {w : World} {L S : Nat} {es : List Elem} (h : Lie B w L es) (hL : L < S) (hS : ∀ k (h : k < es.length) g, blk es[k].1 = some g → g < S) (m : Nat) (u : Value) : Lie B (w.setCell ⟨S, m, none⟩ u) L es := by
  have hoth : ∀ b, b ≠ S → (w.setCell ⟨S, m, none⟩ u).heap[b]? = w.heap[b]? := fun b hb => Below.heap_setCell _ _ _ b hb
  refine ⟨by rw [show (w.setCell ⟨S, m, none⟩ u).heap.size = w.heap.size by simp [World.setCell]]; exact h.1, fun k hk => ⟨?_, ?_⟩⟩
  · rw [World.cell?_of_block (w := w) (a := ⟨L, k, none⟩) (hoth L (by omega))]; exact (h.2 k hk).1
  · exact (h.2 k hk).2.keep fun g hg _ => hoth g (by have := hS k hk g hg; omega)
end Go.Proofs.YtfkfjodfjgjbkaaGreatDoor
