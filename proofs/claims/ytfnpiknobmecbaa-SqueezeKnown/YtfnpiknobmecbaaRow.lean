/- Lists of one-cell values in blocks of one's own, of any program: what stays of them, and what append does. -/
import Derived.WalkKit
import Derived.ProofKit
import Derived.Below
import Derived.OwnWalk
import Derived.Laws.AppendOwn
import Derived.Laws.CopyOwn
import Derived.Deep.AppendSrc
namespace Go.Proofs.Ytfnpiknobmecbaa
open Go.ChangeShapes Go.WideShapes Go.ChangeAt Go.RowKit
set_option linter.unusedVariables false
set_option linter.unusedSimpArgs false


/-- From the address on the values lie there. -/
def RdV (w : World) (a : Option Addr) (xs : List Value) : Prop :=
  xs = [] ∨ ∃ b o, a = some ⟨b, o, none⟩ ∧ b < w.heap.size ∧ ∀ i (h : i < xs.length), w.cell? ⟨b, o + i, none⟩ = some xs[i]
theorem RdV.below {w w' : World} {a : Option Addr} {xs : List Value} (h : RdV w a xs) (hb : Below w.heap.size w w') : RdV w' a xs := by
  rcases h with h1 | ⟨b, o, rfl, h1, h2⟩
  · exact .inl h1
  · exact .inr ⟨b, o, rfl, Nat.lt_of_lt_of_le h1 hb.size, fun i hi => (hb.cell (p := ⟨b, o + i, none⟩) h1).trans (h2 i hi)⟩
theorem RdV.cut {w : World} {a : Option Addr} {xs : List Value} (h : RdV w a xs) (p n : Nat) {a' : Option Addr}
    (ha : p < xs.length → ∀ b o, a = some ⟨b, o, none⟩ → a' = some ⟨b, o + p, none⟩) : RdV w a' ((xs.drop p).take n) := by
  by_cases h0 : (xs.drop p).take n = []
  · exact .inl h0
  · rcases h with h1 | ⟨b, o, rfl, h1, h2⟩
    · subst h1; simp at h0
    · have hp : p < xs.length := by
        by_cases hp : p < xs.length
        · exact hp
        · rw [List.drop_eq_nil_of_le (by omega)] at h0; simp at h0
      refine .inr ⟨b, o + p, ha hp b o rfl, h1, fun i hi => ?_⟩
      have hi2 : p + i < xs.length := by simp at hi; omega
      rw [Nat.add_assoc, h2 (p + i) hi2]
      simp
theorem RdV.cells {w : World} {a : Addr} {xs : List Value} (h : RdV w (some a) xs) : ∀ j u, xs[j]? = some u → w.cell? (a.add j) = some u := by
  intro j u hu
  obtain ⟨hj, e⟩ := List.getElem?_eq_some_iff.1 hu
  rcases h with h1 | ⟨b, o, e1, _, h2⟩
  · subst h1; simp at hj
  · cases e1
    rw [Addr.add_lit, h2 j hj, e]
/-- A block that holds just these, and may be written. -/
def BlkV (w : World) (g : Nat) (t : TypeId) (xs : List Value) : Prop := w.heap[g]? = some (.cells xs.toArray t (0, 0))
theorem BlkV.lt {w : World} {g : Nat} {t : TypeId} {xs : List Value} (h : BlkV w g t xs) : g < w.heap.size := (Array.getElem?_eq_some_iff.1 h).1
theorem BlkV.same {w w' : World} {g : Nat} {t : TypeId} {xs : List Value} (h : BlkV w g t xs) (hb : w'.heap[g]? = w.heap[g]?) : BlkV w' g t xs := hb.trans h
theorem BlkV.below {w w' : World} {g : Nat} {t : TypeId} {xs : List Value} (h : BlkV w g t xs) (hb : Below w.heap.size w w') : BlkV w' g t xs := h.same (hb.block g h.lt)
theorem BlkV.cell {w : World} {g : Nat} {t : TypeId} {xs : List Value} (h : BlkV w g t xs) (i : Nat) (hi : i < xs.length) : w.cell? ⟨g, i, none⟩ = some xs[i] := by
  have h' : w.heap[g]? = _ := h
  simp [World.cell?, h', hi]
theorem BlkV.frozen {w : World} {g : Nat} {t : TypeId} {xs : List Value} (h : BlkV w g t xs) (i : Nat) : w.frozen? ⟨g, i, none⟩ = false := by
  have h' : w.heap[g]? = _ := h
  simp [World.frozen?, h']
theorem BlkV.rd {w : World} {g : Nat} {t : TypeId} {xs : List Value} (h : BlkV w g t xs) (n : Nat) : RdV w (some ⟨g, 0, none⟩) (xs.take n) := by
  refine .inr ⟨g, 0, rfl, h.lt, fun i hi => ?_⟩
  have : i < xs.length := by simp at hi; omega
  rw [Nat.zero_add, h.cell i this]
  simp
theorem BlkV.new (w : World) (t : TypeId) (xs : List Value) : BlkV (w.alloc (.cells xs.toArray t)) w.heap.size t xs := heap_alloc_new _ _
theorem BlkV.stored {w : World} {g : Nat} {t : TypeId} {xs : List Value} (h : BlkV w g t xs) (i : Nat) (x : Value) : BlkV (w.setCell ⟨g, i, none⟩ x) g t (xs.set i x) := by
  have hg := h.lt
  have h1 : w.heap[g]? = _ := h
  have e : w.heap[g] = .cells xs.toArray t (0, 0) := by
    rw [Array.getElem?_eq_getElem hg] at h1; exact Option.some.inj h1
  unfold BlkV
  simp [World.setCell, hg, Array.getElem_modify, e]
theorem BlkV.cellsSet : ∀ (vs : List Value) (o : Nat) {w : World} {g : Nat} {t : TypeId} {xs : List Value}, BlkV w g t xs → o + vs.length ≤ xs.length →
    BlkV (w.setCells g o vs) g t (xs.take o ++ vs ++ xs.drop (o + vs.length)) ∧ w.grownBy (w.setCells g o vs) (some g)
  | [], o, w, g, t, xs, h, _ => ⟨by simpa [World.setCells] using h, World.grownBy.refl _ _⟩
  | v :: r, o, w, g, t, xs, h, hl => by
    have hl' : o + 1 + r.length ≤ (xs.set o v).length := by simp at hl ⊢; omega
    obtain ⟨h1, h2⟩ := BlkV.cellsSet r (o + 1) (h.stored o v) hl'
    have e1 : (xs.set o v).take (o + 1) ++ r ++ (xs.set o v).drop (o + 1 + r.length) = xs.take o ++ (v :: r) ++ xs.drop (o + (v :: r).length) := by
      have ho : o < xs.length := by simp at hl; omega
      have ht : (xs.set o v).take (o + 1) = xs.take o ++ [v] := by
        rw [List.take_succ_eq_append_getElem (by simpa using ho), List.take_set_of_le (Nat.le_refl _)]
        simp
      have hd : (xs.set o v).drop (o + 1 + r.length) = xs.drop (o + (v :: r).length) := by
        rw [List.drop_set_of_lt (by omega)]
        congr 1
        simp; omega
      rw [ht, hd]
      simp
    rw [e1] at h1
    refine ⟨h1, ?_⟩
    have h0 : w.grownBy (w.setCell ⟨g, o, none⟩ v) (some g) := ⟨rfl, rfl, rfl, by simp [World.setCell], fun k _ hk => Below.heap_setCell _ _ _ _ (fun e => hk (by simp [e]))⟩
    exact ⟨h2.os.trans h0.os, h2.tape.trans h0.tape, h2.output.trans h0.output, Nat.le_trans h0.size h2.size, fun k hk hne => (h2.block k (Nat.lt_of_lt_of_le hk h0.size) hne).trans (h0.block k hk hne)⟩
/-- A list in a block of its own, from the block B on: n of them, the block's whole cells are xs. -/
def OwnV (B : Nat) (w : World) (t : TypeId) (v : Value) (n : Nat) (xs : List Value) : Prop :=
  (v = .slice none 0 0 ∧ n = 0 ∧ xs = []) ∨
  ∃ g, v = .slice (some ⟨g, 0, none⟩) n xs.length ∧ B ≤ g ∧ BlkV w g t xs ∧ n ≤ xs.length ∧ xs.length ≤ maxLen
theorem OwnV.keep {B : Nat} {w w' : World} {t : TypeId} {v : Value} {n : Nat} {xs : List Value} (h : OwnV B w t v n xs) (hb : ∀ g, v.ownBlock = some g → g < w.heap.size → w'.heap[g]? = w.heap[g]?) : OwnV B w' t v n xs := by
  rcases h with h | ⟨g, rfl, h2, h3, h4⟩
  · exact .inl h
  · exact .inr ⟨g, rfl, h2, h3.same (hb g rfl h3.lt), h4⟩
theorem OwnV.below {B : Nat} {w w' : World} {t : TypeId} {v : Value} {n : Nat} {xs : List Value} (h : OwnV B w t v n xs) (hb : Below w.heap.size w w') : OwnV B w' t v n xs := h.keep fun g _ hg => hb.block g hg
theorem OwnV.mono {B B' : Nat} {w : World} {t : TypeId} {v : Value} {n : Nat} {xs : List Value} (h : OwnV B w t v n xs) (hB : B' ≤ B) : OwnV B' w t v n xs := by
  rcases h with h | ⟨g, h1, h2, h3⟩
  · exact .inl h
  · exact .inr ⟨g, h1, Nat.le_trans hB h2, h3⟩
theorem OwnV.lt {B : Nat} {w : World} {t : TypeId} {v : Value} {n : Nat} {xs : List Value} (h : OwnV B w t v n xs) : ∀ g, v.ownBlock = some g → B ≤ g := by
  intro g hg
  rcases h with ⟨rfl, _⟩ | ⟨g', rfl, h2, _⟩
  · cases hg
  · have : g' = g := Option.some.inj hg
    omega
theorem OwnV.shape {B : Nat} {w : World} {t : TypeId} {v : Value} {n : Nat} {xs : List Value} (h : OwnV B w t v n xs) : ∃ ao, v = .slice ao n xs.length ∧ (ao = none → xs.length = 0) := by
  rcases h with ⟨rfl, rfl, rfl⟩ | ⟨g, rfl, _⟩
  · exact ⟨none, rfl, fun _ => rfl⟩
  · exact ⟨_, rfl, fun h => by cases h⟩
theorem OwnV.le {B : Nat} {w : World} {t : TypeId} {v : Value} {n : Nat} {xs : List Value} (h : OwnV B w t v n xs) : n ≤ xs.length ∧ xs.length ≤ maxLen := by
  rcases h with ⟨_, rfl, rfl⟩ | ⟨g, _, _, _, h4, h5⟩
  · exact ⟨Nat.le_refl _, Nat.zero_le _⟩
  · exact ⟨h4, h5⟩
theorem OwnV.rd {B : Nat} {w : World} {t : TypeId} {ao : Option Addr} {n c : Nat} {xs : List Value} (h : OwnV B w t (.slice ao n c) n xs) (m : Nat) : RdV w ao (xs.take m) := by
  rcases h with ⟨_, _, rfl⟩ | ⟨g, e, _, h3, _⟩
  · exact .inl (by simp)
  · have : ao = some ⟨g, 0, none⟩ := by injection e
    rw [this]; exact h3.rd m
theorem OwnV.nil (B : Nat) (w : World) (t : TypeId) : OwnV B w t (.slice none 0 0) 0 [] := .inl ⟨rfl, rfl, rfl⟩
/-- A list's source: what is appended. -/
theorem src_of {P : Program} {w : World} {tx e' : TypeId} (hk : P.underlying tx = some (.slice e')) {ao : Option Addr} {m c : Nat} {news : List Value} (hr : RdV w ao news) (hl : news.length = m) (h1 : ∀ u ∈ news, u.oneCell' = true) : Src P 1 tx (.slice ao m c) m news w := by
  cases ao with
  | none =>
    have hn : news = [] := by
      rcases hr with h | ⟨b, o, h, _⟩
      · exact h
      · cases h
    subst hn
    subst hl
    exact Src.ofNil w hk c
  | some a => exact Src.ofSlice w hk a m c news (by simp [hl]) hr.cells h1
theorem zeros_eq1 (z : Value) (hz : z.cells = #[z]) (k : Nat) : Builtin.zeroCells z.cells k = (List.replicate k z).toArray := by
  rw [hz]
  apply Array.ext
  · simp [Builtin.zeroCells]
  · intro i h1 h2
    simp [Builtin.zeroCells]
    have : i % 1 = 0 := by omega
    simp [this]
/-- What is known of an element's type. -/
structure ElemTy (P : Program) (t e : TypeId) (z : Value) (bt : Nat) : Prop where
  ht : P.underlying t = some (.slice e)
  hi : (P.info? e).map (fun i => (i.zero, i.size, i.bytes)) = some (some z, 1, bt)
  hz : z.cells = #[z]
theorem run_append_row {P : Program} {t e : TypeId} {z : Value} {bt : Nat} (T : ElemTy P t e z bt) (w : World) (B : Nat) (tx ty : TypeId) (v : Value) (n : Nat) (xs : List Value) (hown : OwnV B w e v n xs)
    (x : Value) (m : Nat) (news : List Value) (hs : Src P 1 tx x m news w) (hb : (n + m) * bt ≤ 140737488355328) (h63 : n + m ≤ maxLen) (hB : B ≤ w.heap.size) :
    ∃ v' w' xs', (Builtin.append_ #[t, tx] ty #[v, x]).run P w = .ok v' w' ∧ OwnV B w' e v' (n + m) xs' ∧ xs'.take (n + m) = xs.take n ++ news ∧ w.grownBy w' v.ownBlock ∧ (∀ Q : Value → Prop, Q z → (∀ u ∈ xs, Q u) → (∀ u ∈ news, Q u) → ∀ u ∈ xs', Q u) ∧ (n + m ≤ xs.length → xs'.length = xs.length) := by
  obtain ⟨i, hi, hz0, hz1, hz2⟩ := info_parts T.hi
  have hs' : Src P i.size tx x m news w := by rw [hz1]; exact hs
  have hnl : news.length = m := by simpa using hs.newsLen
  have grow : ∀ (base : Option Addr) (old : Nat), v = .slice base n old → old < n + m → (Builtin.firstCells i.size n (.slice base n old)).run P w.drew = .ok (xs.take n).toArray w.drew → (xs.take n).length = n → (n + m ≤ xs.length → False) →
      ∃ v' w' xs', (Builtin.append_ #[t, tx] ty #[v, x]).run P w = .ok v' w' ∧ OwnV B w' e v' (n + m) xs' ∧ xs'.take (n + m) = xs.take n ++ news ∧ w.grownBy w' v.ownBlock ∧ (∀ Q : Value → Prop, Q z → (∀ u ∈ xs, Q u) → (∀ u ∈ news, Q u) → ∀ u ∈ xs', Q u) ∧ (n + m ≤ xs.length → xs'.length = xs.length) := by
    intro base old hv ho hold htl hno
    have hge := grownCap_ge w (n + m) old e
    have hle := grownCap_le_maxLen w (n + m) old e h63
    have hr' := run_append_grow_src (P := P) w t tx ty e i z T.ht hi hz0 base n old (xs.take n) hold x m news hs' ho (by simp only [maxLen] at h63; omega) (growslice_fits ho (by rw [hz2]; exact hb))
    rw [zeros_eq1 z T.hz] at hr'
    have e1 : ((xs.take n ++ news).toArray ++ (List.replicate (grownCap w (n + m) old e - (n + m)) z).toArray) = (xs.take n ++ news ++ List.replicate (grownCap w (n + m) old e - (n + m)) z).toArray := by simp
    rw [e1] at hr'
    have hl : (xs.take n ++ news ++ List.replicate (grownCap w (n + m) old e - (n + m)) z).length = grownCap w (n + m) old e := by
      simp only [List.length_append, htl, hnl, List.length_replicate]; omega
    rw [hv]
    refine ⟨_, _, xs.take n ++ news ++ List.replicate (grownCap w (n + m) old e - (n + m)) z, hr', .inr ⟨w.heap.size, by rw [hl], hB, heap_alloc_new w.drew _, by rw [hl]; exact hge, by rw [hl]; exact hle⟩, ?_, ⟨rfl, rfl, rfl, by simp, fun k hk _ => Below.heap_alloc w.drew _ k hk⟩, ?_, fun h => (hno h).elim⟩
    · rw [List.take_append_of_le_length (by simp only [List.length_append, htl, hnl]; omega)]
      exact List.take_of_length_le (by simp only [List.length_append, htl, hnl]; omega)
    · intro Q qz qx qn u hu
      simp only [List.mem_append, List.mem_replicate] at hu
      rcases hu with (hu | hu) | ⟨_, rfl⟩
      · exact qx u (List.mem_of_mem_take hu)
      · exact qn u hu
      · exact qz
  rcases hown with ⟨rfl, rfl, rfl⟩ | ⟨g, rfl, hBg, hblk, hn, hm⟩
  · by_cases hm0 : m = 0
    · subst hm0
      have hnews : news = [] := List.eq_nil_of_length_eq_zero hnl
      subst hnews
      refine ⟨.slice none 0 0, w, [], ?_, .inl ⟨rfl, rfl, rfl⟩, by simp, World.grownBy.refl _ _, (fun Q _ _ _ u hu => nomatch hu), fun _ => rfl⟩
      rcases hs'.kind with ⟨e', hk⟩ | hk <;> simp [Builtin.append_, run_underlying T.ht, run_underlying hk, sizeOf, typeInfo, hi, hs'.len, hs'.cells]
    · exact grow none 0 rfl (by omega) (run_firstCells_none w.drew i.size 0 0 0) (by simp) (fun h => by simp at h; omega)
  · by_cases hroom : n + m ≤ xs.length
    · have hc : ∀ j, j < news.length → (w.cell? ⟨g, 0 + n * i.size + j, none⟩).isSome = true := by
        intro j hj
        have h2 : 0 + n * i.size + j < xs.length := by rw [hz1]; omega
        rw [hblk.cell _ h2]; rfl
      have hf : ∀ j, j < news.length → w.frozen? ⟨g, 0 + n * i.size + j, none⟩ = false := fun j _ => hblk.frozen _
      have hr' := run_append_room_src (P := P) w t tx ty e i T.ht hi g 0 n xs.length x m news hs' hroom hc hf
      obtain ⟨hset, hgr⟩ : BlkV (w.setCells g (0 + n * i.size) news) g e (xs.take n ++ news ++ xs.drop (n + m)) ∧ w.grownBy (w.setCells g (0 + n * i.size) news) (some g) := by
        have := BlkV.cellsSet news n hblk (by omega)
        rw [hnl] at this
        rw [hz1, Nat.mul_one, Nat.zero_add]
        exact this
      have hlen : (xs.take n ++ news ++ xs.drop (n + m)).length = xs.length := by simp [hnl]; omega
      refine ⟨_, _, xs.take n ++ news ++ xs.drop (n + m), hr', .inr ⟨g, by rw [hlen], hBg, hset, by rw [hlen]; exact hroom, by rw [hlen]; exact hm⟩, ?_, ?_, ?_, fun _ => hlen⟩
      · rw [List.take_append_of_le_length (by simp [hnl]; omega)]
        exact List.take_of_length_le (by simp [hnl]; omega)
      · exact hgr
      · intro Q qz qx qn u hu
        simp only [List.mem_append] at hu
        rcases hu with (hu | hu) | hu
        · exact qx u (List.mem_of_mem_take hu)
        · exact qn u hu
        · exact qx u (List.mem_of_mem_drop hu)
    · refine grow (some ⟨g, 0, none⟩) xs.length rfl (by omega) ?_ (by simp; omega) (fun h => hroom h)
      have := run_firstCells_some (P := P) w.drew i.size n ⟨g, 0, none⟩ n xs.length (xs.take n) (by rw [hz1]; simp; omega) (fun j u hu => (hblk.below (Below.refl _ _).drew).rd n |>.cells j u hu)
      exact this
/-- An append, as a step of a walk. -/
theorem wpList_append_row {P : Program} {t e : TypeId} {z : Value} {bt : Nat} (T : ElemTy P t e z bt) (w : World) {ops : Array Oper} {rest : List Oper} {o : Oper} {a : Act} {Q : Exit → Act → World → Prop} (hgd : o.guard = none) (s x : Operand) (tx : TypeId)
    (ho : o.op = .call { callee := .builtin .append, args := #[s, x], argTypes := #[t, tx] }) (B : Nat) (v : Value) (n : Nat) (xs : List Value) (hs : a.eval s = v) (hown : OwnV B w e v n xs)
    (xv : Value) (m : Nat) (news : List Value) (hx : a.eval x = xv) (hsrc : Src P 1 tx xv m news w) (hb : (n + m) * bt ≤ 140737488355328) (h63 : n + m ≤ maxLen) (hB : B ≤ w.heap.size)
    (h : ∀ v' w' xs', Hid (OwnV B w' e v' (n + m) xs') → Hid (xs'.take (n + m) = xs.take n ++ news) → w.grownBy w' v.ownBlock → Hid ((∀ Q : Value → Prop, Q z → (∀ u ∈ xs, Q u) → (∀ u ∈ news, Q u) → ∀ u ∈ xs', Q u) ∧ (n + m ≤ xs.length → xs'.length = xs.length)) → wpList P ops Q rest (a.put o.dst v') w') : wpList P ops Q (o :: rest) a w := by
  refine wpList_plain hgd fun K hK => ?_
  obtain ⟨v', w', xs', hrun, h2, h3, h4, h5⟩ := run_append_row T w B tx o.type v n xs hown xv m news hsrc hb h63 hB
  unfold Oper.wp execOp
  simp only [ho, resolve, invoke, builtin, Sem.run_bind, Sem.run_pure, Result.andThen_ok, List.map_toArray, List.map_cons, List.map_nil, hs, hx, hrun]
  exact hK _ _ (h v' w' xs' h2 h3 h4 h5)
/-- 'make', of a list of one-cell values. -/
theorem wpList_make_row {P : Program} {t e : TypeId} {z : Value} {bt : Nat} (T : ElemTy P t e z bt) (w : World) {ops : Array Oper} {rest : List Oper} {o : Oper} {a : Act} {Q : Exit → Act → World → Prop} (hgd : o.guard = none) (s x : Operand)
    (ho : o.op = .makeSlice t s x) (l n : Nat) (L C : Int) (hs : a.eval s = .int .i64 L) (hx : a.eval x = .int .i64 C) (hL : L = (l : Int)) (hC : C = (n : Int)) (hln : l ≤ n) (hn : n * bt ≤ 281474976710656) (h63 : n ≤ 9223372036854775807)
    (h : wpList P ops Q rest (a.put o.dst (.slice (some ⟨w.heap.size, 0, none⟩) l n)) (w.alloc (.cells (List.replicate n z).toArray e))) : wpList P ops Q (o :: rest) a w := by
  refine wpList_plain hgd fun K hK => ?_
  obtain ⟨i, hi, hz0, hz1, hz2⟩ := info_parts T.hi
  have hrun := run_make (P := P) w t e i z T.ht hi hz0 .i64 .i64 (l : Int) (n : Int) (by omega) (by omega) (by rw [hz2]; have hp : (bt : Int) * (n : Int) = ((n * bt : Nat) : Int) := (by rw [Int.natCast_mul, Int.mul_comm]); omega) (by omega)
  have hmk : ∀ k : Nat, madeCells z.cells (k * 1) = (List.replicate k z).toArray := by
    intro k
    rw [T.hz]
    apply Array.ext
    · simp [madeCells]
    · intro j h1 h2
      simp [madeCells]
      have : j % 1 = 0 := by omega
      simp [this]
  rw [hz1] at hrun
  simp only [Int.toNat_natCast, hmk] at hrun
  subst hL
  subst hC
  unfold Oper.wp
  simp only [execOp, ho, hs, hx, Sem.run_bind, hrun, Result.andThen]
  exact hK _ _ h
theorem run_copy_V {P : Program} {t e : TypeId} {z : Value} {bt : Nat} (T : ElemTy P t e z bt) (w : World) (tx ty : TypeId) (g : Nat) (n c : Nat) (xs : List Value) (hblk : BlkV w g e xs) (ao : Option Addr) (m d : Nat) (news : List Value) (hr : RdV w ao news) (h1 : ∀ u ∈ news, u.oneCell' = true) (hl : news.length = m) (hmn : m ≤ n) (hn : n ≤ xs.length) :
    (Builtin.copy_ #[t, tx] ty #[.slice (some ⟨g, 0, none⟩) n c, .slice ao m d]).run P w = .ok (goInt m) (w.setRow g (news ++ xs.drop m).toArray) := by
  obtain ⟨i, hi, hz0, hz1, hz2⟩ := info_parts T.hi
  have hsz : (P.info? e).map (·.size) = some 1 := by rw [hi]; simp [hz1]
  by_cases hm : m = 0
  · subst hm
    have hnews : news = [] := List.eq_nil_of_length_eq_zero hl
    subst hnews
    have := run_copy_none (P := P) w t tx ty e (some ⟨g, 0, none⟩) ao n c 0 d T.ht hsz (by simp)
    rw [this]
    simp
    rw [setRow_self w g _ e (0, 0) (by simpa [BlkV] using hblk)]
  · cases ao with
    | none =>
      rcases hr with h | ⟨b, o, h, _⟩
      · subst h; simp at hl; omega
      · cases h
    | some x =>
      have := run_copy_row (P := P) w t tx ty e g 0 n c x m d _ e news T.ht hsz hblk (by simp [hl, Nat.min_eq_left hmn]) hr.cells (by simp [hl]; omega) h1
      rw [this]
      simp [hl]
theorem BlkV.row {w : World} {g : Nat} {t : TypeId} {xs : List Value} (h : BlkV w g t xs) (ys : List Value) : BlkV (w.setRow g ys.toArray) g t ys := setRow_heap w g _ _ t _ h
end Go.Proofs.Ytfnpiknobmecbaa
