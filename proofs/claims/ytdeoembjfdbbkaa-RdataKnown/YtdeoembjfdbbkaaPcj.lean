/- Texts laid together: Ia Ib Ic Id Sd Ak. -/
import Derived.Test.YtdeoembjfdbbkaaPci
import Derived.Deep.CutBlock
import Derived.Lib.Bytealg
import Derived.Lib.BytesEntry
/- The program's Copy: its three plain lists. -/
namespace Go.Proofs.Ytdeoembjfdbbkaa
open Go.ChangeShapes Go.WideShapes Go.ChangeAt Go.RowKit
set_option linter.unusedVariables false
set_option linter.unusedSimpArgs false

theorem grown_below {w w' : World} (h : w.grownBy w' none) : Below w.heap.size w w' := ⟨h.os, h.tape, h.output, h.size, fun j hj => h.block j hj (by simp)⟩
theorem al_below {w W : World} {B : Nat} {o : Obj} (h : Below B w W) (hB : B ≤ w.heap.size) : Below B w (W.alloc o) := h.alloc (Nat.le_trans hB h.size) _
/-- Numbers copied. -/
theorem st_cu {w : World} {ops : Array Oper} {o : Oper} {a : Act} {K : Act → World → Prop} {Q : Exit → Act → World → Prop} {E : Prop} (hgd : o.guard = none) (s x : Operand)
    (ho : o.op = .call { callee := .builtin .append, args := #[s, x], argTypes := #[25, 25] }) (B : Nat) (hs : a.eval s = .slice none 0 0) (a2 : Option Addr) (n2 c2 : Nat) (us : List Nat) (hx : a.eval x = .slice a2 n2 c2) (hr : URd w ⟨a2, n2, c2⟩ us) (hn : us.length ≤ 1000) (hB : B ≤ w.heap.size)
    (h : ∀ (t' : Sl) w', Hid (UOwn B w' t' us ∧ Below w.heap.size w w') → K (a.put o.dst (.slice t'.a t'.n t'.c)) w') :
    if Region.wanted o (yielded ops a.tmps) = true then Oper.wp Try.prog o a w K Q else E := by
  have hl : us.length = n2 := hr.len
  refine step_append_row tyU hgd s x 25 ho B _ 0 [] hs (OwnV.nil B w 54) _ n2 (uv us) hx (src_of Try.underlying25 hr.rd (by rw [uv_len]; exact hl) (by intro v hv; obtain ⟨y, _, rfl⟩ := List.mem_map.1 hv; rfl)) (by omega) (by simp only [maxLen]; omega) hB ?_
  intro v' w' xs' q1 q2 q3
  obtain ⟨ao', rfl, _⟩ := q1.out.shape
  refine h ⟨ao', 0 + n2, xs'.length⟩ w' ⟨⟨xs', ?_, ?_, hr.bd⟩, grown_below q3.out⟩
  · rw [hl]; simpa using q1.out
  · have := q2.out
    rw [hl]
    simpa using this
/-- Texts copied. -/
theorem st_ct {w : World} {ops : Array Oper} {o : Oper} {a : Act} {K : Act → World → Prop} {Q : Exit → Act → World → Prop} {E : Prop} (hgd : o.guard = none) (s x : Operand)
    (ho : o.op = .call { callee := .builtin .append, args := #[s, x], argTypes := #[26, 26] }) (B : Nat) (hs : a.eval s = .slice none 0 0) (a2 : Option Addr) (n2 c2 : Nat) (ts : List ByteArray) (hx : a.eval x = .slice a2 n2 c2) (hr : TRd w ⟨a2, n2, c2⟩ ts) (hn : ts.length ≤ 1000000000000) (hm : ∀ y ∈ ts, y.size ≤ 1000000000000) (hB : B ≤ w.heap.size)
    (h : ∀ (t' : Sl) w', Hid (Own1 B w' t' ts ∧ Below w.heap.size w w') → K (a.put o.dst (.slice t'.a t'.n t'.c)) w') :
    if Region.wanted o (yielded ops a.tmps) = true then Oper.wp Try.prog o a w K Q else E := by
  have hl : ts.length = n2 := hr.len
  have hw : Region.wanted o (yielded ops a.tmps) = true := by simp [Region.wanted, hgd]
  rw [if_pos hw]
  obtain ⟨v', w', xs', hrun, h2, h3, h4, h5⟩ := run_append_row tyT w B 26 o.type (.slice none 0 0) 0 [] (OwnV.nil B w 9) _ n2 (tv ts) (src_of (c := c2) Try.underlying26 hr.rd (by rw [tv_len]; exact hl) (tv_one ts)) (by omega) (by simp only [maxLen]; omega) hB
  unfold Oper.wp execOp
  simp only [ho, resolve, invoke, builtin, Sem.run_bind, Sem.run_pure, Result.andThen_ok, List.map_toArray, List.map_cons, List.map_nil, hs, hx, hrun]
  obtain ⟨ys, rfl, hys⟩ := tv_of (M := 1000000000000) xs' (h5.1 (QS 1000000000000) ⟨⟨#[]⟩, rfl, Nat.zero_le _⟩ (by simp) (qs_tv hm))
  obtain ⟨ao', rfl, _⟩ := OwnV.shape h2
  refine h ⟨ao', 0 + n2, (tv ys).length⟩ w' ⟨⟨ys, ⟨?_, hys⟩, ?_⟩, grown_below h4⟩
  · rw [hl]; simpa using h2
  · have h2' := h3
    rw [tv_take] at h2'
    rw [hl]
    have := tv_inj (a := ys.take (0 + n2)) (b := ts) (by simpa using h2')
    simpa using this
/-- Bytes copied. -/
theorem st_cb {w : World} {ops : Array Oper} {o : Oper} {a : Act} {K : Act → World → Prop} {Q : Exit → Act → World → Prop} {E : Prop} (hgd : o.guard = none) (s x : Operand)
    (ho : o.op = .call { callee := .builtin .append, args := #[s, x], argTypes := #[27, 27] }) (B : Nat) (hs : a.eval s = .slice none 0 0) (a2 : Option Addr) (n2 c2 : Nat) (zs : List Int) (hx : a.eval x = .slice a2 n2 c2) (hr : BRd w ⟨a2, n2, c2⟩ zs) (hn : zs.length ≤ 1000000000000) (hB : B ≤ w.heap.size)
    (h : ∀ (t' : Sl) w', Hid (BOwn B w' t' zs ∧ Below w.heap.size w w') → K (a.put o.dst (.slice t'.a t'.n t'.c)) w') :
    if Region.wanted o (yielded ops a.tmps) = true then Oper.wp Try.prog o a w K Q else E := by
  have hl : zs.length = n2 := hr.len
  refine step_append_blk hgd s x ho B _ 0 [] hs (.inl ⟨rfl, rfl, rfl⟩) a2 n2 c2 zs hx hr.rd n2 hl (by omega) hr.nil (by omega) hB ?_
  intro v' w' zs' q1 q2 q3
  obtain ⟨ao', rfl, _⟩ := q1.out.addr
  refine h ⟨ao', n2, zs'.length⟩ w' ⟨⟨zs', ?_, ?_⟩, grown_below q3.out⟩
  · rw [hl]; exact q1.out
  · have := q2.out
    rw [hl]
    simpa using this
/-- Three lists copied, and a box for them. -/
structure CpS (W1 W : World) (D : Nat) (tu tt tb : Sl) (d : Dat) : Prop where
  u : UOwn W1.heap.size W tu d.us
  t : Own1 W1.heap.size W tt d.ts
  b : BOwn W1.heap.size W tb d.raw
  blk : DBlk W D ⟨⟨none, 0, 0⟩, tu, tt, tb⟩
  bel : Below W1.heap.size W1 W
  low : W1.heap.size ≤ D
theorem cps_new {W1 W : World} {tu tt tb : Sl} {d : Dat} (h1 : UOwn W1.heap.size W tu d.us) (h2 : Own1 W1.heap.size W tt d.ts) (h3 : BOwn W1.heap.size W tb d.raw) (hb : Below W1.heap.size W1 W) :
    CpS W1 (W.alloc (.cells #[.slice none 0 0, .slice tu.a tu.n tu.c, .slice tt.a tt.n tt.c, .slice tb.a tb.n tb.c] 29)) W.heap.size tu tt tb d := by
  have hn := new_below W (.cells #[.slice none 0 0, .slice tu.a tu.n tu.c, .slice tt.a tt.n tt.c, .slice tb.a tb.n tb.c] 29)
  exact ⟨h1.stays hn, h2.stays hn, h3.stays hn, heap_alloc_new _ _, hb.trans (hn.mono hb.size), hb.size⟩
theorem cps_set {W1 W : World} {D : Nat} {y : DA} {tu tt tb : Sl} {d : Dat} (h1 : UOwn W1.heap.size W tu d.us) (h2 : Own1 W1.heap.size W tt d.ts) (h3 : BOwn W1.heap.size W tb d.raw) (hb : Below W1.heap.size W1 W) (hD : DBlk W D y) (hl : W1.heap.size ≤ D) :
    CpS W1 ((((W.setCell ⟨D, 0, none⟩ (.slice none 0 0)).setCell ⟨D, 1, none⟩ (.slice tu.a tu.n tu.c)).setCell ⟨D, 2, none⟩ (.slice tt.a tt.n tt.c)).setCell ⟨D, 3, none⟩ (.slice tb.a tb.n tb.c)) D tu tt tb d := by
  have e := set4_off W D ⟨⟨none, 0, 0⟩, tu, tt, tb⟩
  refine ⟨h1.keepTy ?_, h2.keep ?_, h3.keepD hD e, set4_blk hD ⟨⟨none, 0, 0⟩, tu, tt, tb⟩, ?_, hl⟩
  · rintro j _ _ ⟨zs, hz⟩
    exact e j (hD.ne hz (by decide))
  · rintro j _ _ ⟨zs, hz⟩
    exact e j (hD.ne hz (by decide))
  · exact (((hb.setCell (p := ⟨D, 0, none⟩) hl _).setCell (p := ⟨D, 1, none⟩) hl _).setCell (p := ⟨D, 2, none⟩) hl _).setCell (p := ⟨D, 3, none⟩) hl _
/-- A name appended, as a step of a region. -/
theorem st_n1 {w : World} {ops : Array Oper} {o : Oper} {a : Act} {K : Act → World → Prop} {Q : Exit → Act → World → Prop} {E : Prop} (hgd : o.guard = none) (s x : Operand)
    (ho : o.op = .call { callee := .builtin .append, args := #[s, x], argTypes := #[24, 24] }) (B : Nat) (s1 : Sl) (nss : List (List ByteArray)) (hs : a.eval s = .slice s1.a s1.n s1.c) (hown : OwnN B w (.slice s1.a s1.n s1.c) nss)
    (ao : Addr) (hx : a.eval x = .slice (some ao) 1 1) (t : Sl) (nm : List ByteArray) (hr : RdV w (some ao) [.slice t.a t.n t.c]) (ht : Own1 B w t nm) (hn : nss.length ≤ 1000) (hB : B ≤ w.heap.size)
    (h : ∀ (t' : Sl) w', Hid (OwnN B w' (.slice t'.a t'.n t'.c) (nss ++ [nm])) → Hid (∃ o, w.grownBy w' o ∧ ∀ j, o = some j → B ≤ j ∧ ∃ zs, BlkV w j 53 zs) → K (a.put o.dst (.slice t'.a t'.n t'.c)) w') :
    if Region.wanted o (yielded ops a.tmps) = true then Oper.wp Try.prog o a w K Q else E := by
  obtain ⟨xs, h1, h2⟩ := hown
  refine step_append_row tyNs hgd s x 24 ho B _ nss.length xs hs h1 _ 1 [.slice t.a t.n t.c] hx (src_of Try.underlying24 hr rfl (by intro u hu; simp at hu; subst hu; rfl)) (by omega) (by simp only [maxLen]; omega) hB ?_
  intro v' w' xs' q1 q2 q3
  obtain ⟨ao', rfl, _⟩ := q1.out.shape
  have hle := q1.out.le
  have hB1 : ∀ j, Value.ownBlock (.slice s1.a s1.n s1.c) = some j → B ≤ j ∧ ∃ zs, BlkV w j 53 zs := by
    intro j hj
    refine ⟨h1.lt j hj, ?_⟩
    rcases h1 with ⟨e3, _⟩ | ⟨g, e3, _, hblk, _⟩
    · rw [e3] at hj; cases hj
    · rw [e3] at hj
      have e4 : g = j := (Option.some.inj hj)
      subst e4
      exact ⟨_, hblk⟩
  have hkb : ∀ j, B ≤ j → j < w.heap.size → (∃ zs, BlkV w j 9 zs) → w'.heap[j]? = w.heap[j]? := by
    rintro j _ hj ⟨zs, hz⟩
    refine q3.out.block j hj (fun e => ?_)
    obtain ⟨_, zs', hz'⟩ := hB1 j e.symm
    exact absurd (blk_ty hz hz') (by decide)
  have hx' : xs'.take (nss.length + 1) = xs.take nss.length ++ [.slice t.a t.n t.c] := q2.out
  have hl : (xs.take nss.length).length = nss.length := by have := h1.le.1; rw [List.length_take]; omega
  refine h ⟨ao', nss.length + 1, xs'.length⟩ w' ⟨xs', by simpa using q1.out, fun i hi => ?_⟩ ⟨_, q3.out, hB1⟩
  rw [List.length_append, List.length_singleton] at hi
  by_cases hlt : i < nss.length
  · obtain ⟨s', e1, e2⟩ := h2 i hlt
    refine ⟨s', ?_, ?_⟩
    · have h3 : (xs'.take (nss.length + 1))[i]? = (xs.take nss.length ++ [.slice t.a t.n t.c])[i]? := by rw [hx']
      rw [List.getElem?_take_of_lt (by omega), List.getElem?_append_left (by omega), List.getElem?_take_of_lt hlt, e1] at h3
      exact h3
    · rw [List.getElem_append_left hlt]
      exact e2.keep hkb
  · have hie : i = nss.length := by omega
    subst hie
    refine ⟨t, ?_, ?_⟩
    · have h3 : (xs'.take (nss.length + 1))[nss.length]? = (xs.take nss.length ++ [.slice t.a t.n t.c])[nss.length]? := by rw [hx']
      rw [List.getElem?_take_of_lt (by omega), List.getElem?_append_right (by omega), hl] at h3
      simpa using h3
    · rw [List.getElem_append_right (by omega)]
      simp
      exact ht.keep hkb
theorem BOwn.offTy {B : Nat} {w w' : World} {s : Sl} {zs : List Int} (h : BOwn B w s zs) (hg : ∃ o, w.grownBy w' o ∧ ∀ j, o = some j → B ≤ j ∧ ∃ zs, BlkV w j 53 zs) : BOwn B w' s zs := by
  obtain ⟨o, h1, h2⟩ := hg
  obtain ⟨ys, h3, h4⟩ := h
  refine ⟨ys, ?_, h4⟩
  rcases h3 with h3 | ⟨g, e1, e2, e3, e4⟩
  · exact .inl h3
  · refine .inr ⟨g, e1, e2, e3.same (h1.block g e3.lt (fun e => ?_)), e4⟩
    obtain ⟨_, zs', hz'⟩ := h2 g e.symm
    have hh := e3.1
    have hh' : w.heap[g]? = some (.cells zs'.toArray 53 (0, 0)) := hz'
    rw [hh] at hh'
    injection hh' with hh'
    injection hh' with _ hh'
    exact absurd hh' (by decide)
/-- Copied, with some of the names. -/
structure CpN (W1 W : World) (D : Nat) (x : DA) (d : Dat) : Prop where
  own : DOwn W1.heap.size W x d
  blk : DBlk W D x
  bel : Below W1.heap.size W1 W
  low : W1.heap.size ≤ D
theorem CpS.start {W1 W : World} {D : Nat} {tu tt tb : Sl} {d : Dat} (h : CpS W1 W D tu tt tb d) : CpN W1 W D ⟨⟨none, 0, 0⟩, tu, tt, tb⟩ ⟨d.ns.take 0, d.us, d.ts, d.raw⟩ := ⟨⟨OwnN.nil _ _, h.u, h.t, h.b⟩, h.blk, h.bel, h.low⟩
theorem CpN.go {W1 W W' : World} {D : Nat} {x : DA} {d : Dat} (h : CpN W1 W D x d) (hb : Below W.heap.size W W') : CpN W1 W' D x d := ⟨h.own.stays hb, h.blk.same (hb.block D h.blk.lt), h.bel.trans (hb.mono h.bel.size), h.low⟩
theorem DOwn.set0 {B : Nat} {W : World} {D : Nat} {y x : DA} {d : Dat} (h : DOwn B W x d) (hD : DBlk W D y) (v : Value) : DOwn B (W.setCell ⟨D, 0, none⟩ v) x d := by
  have e : ∀ j, j ≠ D → (W.setCell ⟨D, 0, none⟩ v).heap[j]? = W.heap[j]? := fun j hj => Below.heap_setCell _ _ _ j hj
  refine ⟨h.1.keepTy ?_, h.2.1.keepTy ?_, h.2.2.1.keep ?_, h.2.2.2.keepD hD e⟩
  · rintro j _ _ ⟨t, zs, hz, ht⟩
    exact e j (hD.ne hz (by rcases ht with rfl | rfl <;> decide))
  · rintro j _ _ ⟨zs, hz⟩
    exact e j (hD.ne hz (by decide))
  · rintro j _ _ ⟨zs, hz⟩
    exact e j (hD.ne hz (by decide))
theorem CpN.step {W1 W W' : World} {D : Nat} {x : DA} {d : Dat} {t' : Sl} {nss : List (List ByteArray)} (h : CpN W1 W D x d) (ho : OwnN W1.heap.size W' (.slice t'.a t'.n t'.c) nss) (hg : ∃ o, W.grownBy W' o ∧ ∀ j, o = some j → W1.heap.size ≤ j ∧ ∃ zs, BlkV W j 53 zs) :
    CpN W1 (W'.setCell ⟨D, 0, none⟩ (.slice t'.a t'.n t'.c)) D ⟨t', x.p2, x.p3, x.p4⟩ ⟨nss, d.us, d.ts, d.raw⟩ := by
  have hD := h.blk.offTy hg
  have hown : DOwn W1.heap.size W' ⟨t', x.p2, x.p3, x.p4⟩ ⟨nss, d.us, d.ts, d.raw⟩ := ⟨ho, h.own.2.1.offTy hg, h.own.2.2.1.offTy hg, h.own.2.2.2.offTy hg⟩
  refine ⟨hown.set0 hD _, hD.set0 t', ?_, h.low⟩
  obtain ⟨o, g1, g2⟩ := hg
  have hb : Below W1.heap.size W1 W' := ⟨g1.os.trans h.bel.os, g1.tape.trans h.bel.tape, g1.output.trans h.bel.output, Nat.le_trans h.bel.size g1.size, fun j hj => (g1.block j (Nat.lt_of_lt_of_le hj h.bel.size) (fun e => by have := (g2 j e.symm).1; omega)).trans (h.bel.block j hj)⟩
  exact hb.setCell (p := ⟨D, 0, none⟩) h.low _
set_option maxRecDepth 100000 in
set_option maxHeartbeats 8000000 in
theorem copy5_any (x : DA) (d : Dat) (w : World) (h : DRd w x d) (hB : Bd d) (hN : ∀ n ∈ d.ns, nsz n ≤ 1000000000000) :
    Calls Try.prog 16 #[.agg #[.slice x.p1.a x.p1.n x.p1.c, .slice x.p2.a x.p2.n x.p2.c, .slice x.p3.a x.p3.n x.p3.c, .slice x.p4.a x.p4.n x.p4.c]] w fun e w' => ∃ y : DA, e = .returned (.agg #[.slice y.p1.a y.p1.n y.p1.c, .slice y.p2.a y.p2.n y.p2.c, .slice y.p3.a y.p3.n y.p3.c, .slice y.p4.a y.p4.n y.p4.c]) ∧ Hid (DOwn w.heap.size w' y d ∧ Below w.heap.size w w') := by
  have hT : d.ts.length ≤ 1000000000000 ∧ ∀ y ∈ d.ts, y.size ≤ 1000000000000 := by
    have h1 := hB.t
    unfold tsum at h1
    have h2 : ∀ l : List ByteArray, l.length ≤ (l.map tz).sum ∧ ∀ y ∈ l, y.size ≤ (l.map tz).sum := by
      intro l
      induction l with
      | nil => simp
      | cons a l ih =>
        simp only [List.map_cons, List.sum_cons, List.length_cons, List.mem_cons, tz]
        refine ⟨by have := ih.1; omega, ?_⟩
        rintro y (rfl | hy)
        · omega
        · have := ih.2 y hy; omega
    have h3 := h2 d.ts
    exact ⟨by omega, fun y hy => by have := h3.2 y hy; omega⟩
  have hbx := new_below w (.cells #[.slice x.p1.a x.p1.n x.p1.c, .slice x.p2.a x.p2.n x.p2.c, .slice x.p3.a x.p3.n x.p3.c, .slice x.p4.a x.p4.n x.p4.c] 29)
  have HS : Hid (DBlk (w.alloc (.cells #[.slice x.p1.a x.p1.n x.p1.c, .slice x.p2.a x.p2.n x.p2.c, .slice x.p3.a x.p3.n x.p3.c, .slice x.p4.a x.p4.n x.p4.c] 29)) w.heap.size x ∧ DRd (w.alloc (.cells #[.slice x.p1.a x.p1.n x.p1.c, .slice x.p2.a x.p2.n x.p2.c, .slice x.p3.a x.p3.n x.p3.c, .slice x.p4.a x.p4.n x.p4.c] 29)) x d ∧ Below w.heap.size w (w.alloc (.cells #[.slice x.p1.a x.p1.n x.p1.c, .slice x.p2.a x.p2.n x.p2.c, .slice x.p3.a x.p3.n x.p3.c, .slice x.p4.a x.p4.n x.p4.c] 29))) := ⟨heap_alloc_new _ _, h.below hbx, hbx⟩
  have HB : Hid (Bd d) := hB
  have HZ0 : Hid ((w.alloc (.cells #[.slice x.p1.a x.p1.n x.p1.c, .slice x.p2.a x.p2.n x.p2.c, .slice x.p3.a x.p3.n x.p3.c, .slice x.p4.a x.p4.n x.p4.c] 29)).heap.size = w.heap.size + 1) := by show _ = _; simp
  have HT : Hid (d.ts.length ≤ 1000000000000 ∧ ∀ y ∈ d.ts, y.size ≤ 1000000000000) := hT
  clear h hbx hT
  obtain ⟨⟨a1, n1, k1⟩, ⟨a2, n2, k2⟩, ⟨a3, n3, k3⟩, ⟨a4, n4, k4⟩⟩ := x
  simp only at HS HZ0 ⊢
  go_enter Try.func16, Try.ntmps16
  go_upto_region 1 with fail
  generalize (w.alloc (.cells #[.slice a1 n1 k1, .slice a2 n2 k2, .slice a3 n3 k3, .slice a4 n4 k4] 29)) = W0 at *
  obtain ⟨b, hb⟩ : ∃ b, b = w.heap.size := ⟨_, rfl⟩
  rw [← hb] at HS HZ0 ⊢
  have Hb : Hid (b = w.heap.size) := hb
  clear hb
  have hz0 := HS.out.1.lt
  have HS1 : Hid (DBlk (W0.alloc (.cells #[.slice none 0 0, .slice none 0 0, .slice none 0 0, .slice none 0 0] 29)) b ⟨⟨a1, n1, k1⟩, ⟨a2, n2, k2⟩, ⟨a3, n3, k3⟩, ⟨a4, n4, k4⟩⟩ ∧ DBlk (W0.alloc (.cells #[.slice none 0 0, .slice none 0 0, .slice none 0 0, .slice none 0 0] 29)) (b + 1) nilDA ∧ DRd (W0.alloc (.cells #[.slice none 0 0, .slice none 0 0, .slice none 0 0, .slice none 0 0] 29)) ⟨⟨a1, n1, k1⟩, ⟨a2, n2, k2⟩, ⟨a3, n3, k3⟩, ⟨a4, n4, k4⟩⟩ d ∧ Below b w (W0.alloc (.cells #[.slice none 0 0, .slice none 0 0, .slice none 0 0, .slice none 0 0] 29)) ∧ (W0.alloc (.cells #[.slice none 0 0, .slice none 0 0, .slice none 0 0, .slice none 0 0] 29)).heap.size = b + 2) := by
    have hn := new_below W0 (.cells #[.slice none 0 0, .slice none 0 0, .slice none 0 0, .slice none 0 0] 29)
    have hD := dblk_new W0
    rw [HZ0.out] at hD
    exact ⟨HS.out.1.same (hn.block _ HS.out.1.lt), hD, HS.out.2.1.below hn, HS.out.2.2.trans (hn.mono (by omega)), by simp [HZ0.out]⟩
  clear HS HZ0 hz0
  generalize (W0.alloc (.cells #[.slice none 0 0, .slice none 0 0, .slice none 0 0, .slice none 0 0] 29)) = W1 at *
  have HK0 : Hid (DBlk W1.drew b ⟨⟨a1, n1, k1⟩, ⟨a2, n2, k2⟩, ⟨a3, n3, k3⟩, ⟨a4, n4, k4⟩⟩) := HS1.out.1
  have HD0 : Hid (DRd W1.drew ⟨⟨a1, n1, k1⟩, ⟨a2, n2, k2⟩, ⟨a3, n3, k3⟩, ⟨a4, n4, k4⟩⟩ d) := HS1.out.2.2.1.below (Below.refl _ _).drew
  have HB0 : Hid (Below W1.heap.size W1 W1.drew) := (Below.refl _ _).drew
  have c1 : W1.cell? ⟨b, 1, none⟩ = some (.slice a2 n2 k2) := HS1.out.1.box.2.1
  have c2 : W1.cell? ⟨b, 2, none⟩ = some (.slice a3 n3 k3) := HS1.out.1.box.2.2.1
  have c3 : W1.cell? ⟨b, 3, none⟩ = some (.slice a4 n4 k4) := HS1.out.1.box.2.2.2.1
  have hbl := HS1.out.1.lt
  go_cut [3] from 6 to 15 (fun s3 wx => ∃ (D : Nat) (tu tt tb : Sl), s3 = .pointer (some ⟨D, 0, none⟩) ∧ Hid (CpS W1 wx D tu tt tb d))
  case first =>
    have hb1 : ¬ b = W1.heap.size := by omega
    go_region_held3 (fun W => W.cell? ⟨b, 1, none⟩ = some (.slice a2 n2 k2) ∧ W.cell? ⟨b, 2, none⟩ = some (.slice a3 n3 k3) ∧ W.cell? ⟨b, 3, none⟩ = some (.slice a4 n4 k4)) (exact ⟨by go_keep, by go_keep, by go_keep⟩) (first
      | (refine st_cu rfl _ _ rfl W1.heap.size rfl a2 n2 k2 d.us rfl (by first | exact HD0.out.h2 | exact HD0.out.h2.below (new_below _ _)) HB.out.u (by first | exact HB0.out.size | exact (al_below HB0.out (Nat.le_refl _)).size) ?_; intro tu Wu Hu; have HBu : Hid (Below W1.heap.size W1 Wu) := (by first | exact HB0.out.trans (Hu.out.2.mono HB0.out.size) | exact (al_below HB0.out (Nat.le_refl _)).trans (Hu.out.2.mono (al_below HB0.out (Nat.le_refl _)).size)); have HKu : Hid (DBlk Wu b ⟨⟨a1, n1, k1⟩, ⟨a2, n2, k2⟩, ⟨a3, n3, k3⟩, ⟨a4, n4, k4⟩⟩) := (by first | exact HK0.out.same (Hu.out.2.block _ HK0.out.lt) | exact (HK0.out.same ((new_below _ _).block _ HK0.out.lt)).same (Hu.out.2.block _ (Nat.lt_of_lt_of_le HK0.out.lt (new_below _ _).size))); have HDu : Hid (DRd Wu ⟨⟨a1, n1, k1⟩, ⟨a2, n2, k2⟩, ⟨a3, n3, k3⟩, ⟨a4, n4, k4⟩⟩ d) := (by first | exact HD0.out.below Hu.out.2 | exact (HD0.out.below (new_below _ _)).below Hu.out.2); have e1 : Wu.cell? ⟨b, 1, none⟩ = some (.slice a2 n2 k2) := (HKu.out).box.2.1; have e2 : Wu.cell? ⟨b, 2, none⟩ = some (.slice a3 n3 k3) := (HKu.out).box.2.2.1; have e3 : Wu.cell? ⟨b, 3, none⟩ = some (.slice a4 n4 k4) := (HKu.out).box.2.2.2.1; have el : b < Wu.heap.size := (HKu.out).lt; (try (have hDu : Hid (DBlk Wu W1.heap.size nilDA) := (show DBlk (W1.drew.alloc (.cells #[.slice none 0 0, .slice none 0 0, .slice none 0 0, .slice none 0 0] 29)) W1.heap.size nilDA from dblk_new W1.drew).same (Hu.out.2.block _ (show DBlk (W1.drew.alloc (.cells #[.slice none 0 0, .slice none 0 0, .slice none 0 0, .slice none 0 0] 29)) W1.heap.size nilDA from dblk_new W1.drew).lt)); (try (have x0 := hDu.out.fz 0; have x1 := hDu.out.fz 1; have x2 := hDu.out.fz 2; have x3 := hDu.out.fz 3; have y0 := hDu.out.box.1; have y1 := hDu.out.box.2.1; have y2 := hDu.out.box.2.2.1; have y3 := hDu.out.box.2.2.2.1; (try simp only at y0 y1 y2 y3)))))
      | (refine st_ct rfl _ _ rfl W1.heap.size rfl a3 n3 k3 d.ts rfl (by first | exact HDu.out.h3 | exact HDu.out.h3.below (new_below _ _)) HT.out.1 HT.out.2 (by first | exact HBu.out.size | exact (al_below HBu.out (Nat.le_refl _)).size) ?_; intro tt Wt Ht; have HBt : Hid (Below W1.heap.size W1 Wt) := (by first | exact HBu.out.trans (Ht.out.2.mono HBu.out.size) | exact (al_below HBu.out (Nat.le_refl _)).trans (Ht.out.2.mono (al_below HBu.out (Nat.le_refl _)).size)); have HKt : Hid (DBlk Wt b ⟨⟨a1, n1, k1⟩, ⟨a2, n2, k2⟩, ⟨a3, n3, k3⟩, ⟨a4, n4, k4⟩⟩) := (by first | exact HKu.out.same (Ht.out.2.block _ HKu.out.lt) | exact (HKu.out.same ((new_below _ _).block _ HKu.out.lt)).same (Ht.out.2.block _ (Nat.lt_of_lt_of_le HKu.out.lt (new_below _ _).size))); have HDt : Hid (DRd Wt ⟨⟨a1, n1, k1⟩, ⟨a2, n2, k2⟩, ⟨a3, n3, k3⟩, ⟨a4, n4, k4⟩⟩ d) := (by first | exact HDu.out.below Ht.out.2 | exact (HDu.out.below (new_below _ _)).below Ht.out.2); have HUt : Hid (UOwn W1.heap.size Wt tu d.us) := (by first | exact (Hu.out.1).stays Ht.out.2 | exact ((Hu.out.1).stays (new_below _ _)).stays Ht.out.2); have f1 : Wt.cell? ⟨b, 1, none⟩ = some (.slice a2 n2 k2) := (HKt.out).box.2.1; have f2 : Wt.cell? ⟨b, 2, none⟩ = some (.slice a3 n3 k3) := (HKt.out).box.2.2.1; have f3 : Wt.cell? ⟨b, 3, none⟩ = some (.slice a4 n4 k4) := (HKt.out).box.2.2.2.1; have fl : b < Wt.heap.size := (HKt.out).lt; (try (have hDt : Hid (DBlk Wt Wu.heap.size nilDA) := (dblk_new Wu).same (Ht.out.2.block _ (dblk_new Wu).lt))); (try (have hDt : Hid (DBlk Wt W1.heap.size nilDA) := hDu.out.same (Ht.out.2.block _ hDu.out.lt))); (try (have x0 := hDt.out.fz 0; have x1 := hDt.out.fz 1; have x2 := hDt.out.fz 2; have x3 := hDt.out.fz 3; have y0 := hDt.out.box.1; have y1 := hDt.out.box.2.1; have y2 := hDt.out.box.2.2.1; have y3 := hDt.out.box.2.2.2.1; (try simp only at y0 y1 y2 y3))))
      | (refine st_cb rfl _ _ rfl W1.heap.size rfl a4 n4 k4 d.raw rfl (by first | exact HDt.out.h4 | exact HDt.out.h4.below (new_below _ _)) HB.out.r (by first | exact HBt.out.size | exact (al_below HBt.out (Nat.le_refl _)).size) ?_; intro tb Wv Hv; have HBv : Hid (Below W1.heap.size W1 Wv) := (by first | exact HBt.out.trans (Hv.out.2.mono HBt.out.size) | exact (al_below HBt.out (Nat.le_refl _)).trans (Hv.out.2.mono (al_below HBt.out (Nat.le_refl _)).size)); have HKv : Hid (DBlk Wv b ⟨⟨a1, n1, k1⟩, ⟨a2, n2, k2⟩, ⟨a3, n3, k3⟩, ⟨a4, n4, k4⟩⟩) := (by first | exact HKt.out.same (Hv.out.2.block _ HKt.out.lt) | exact (HKt.out.same ((new_below _ _).block _ HKt.out.lt)).same (Hv.out.2.block _ (Nat.lt_of_lt_of_le HKt.out.lt (new_below _ _).size))); have HUv : Hid (UOwn W1.heap.size Wv tu d.us) := (by first | exact (HUt.out).stays Hv.out.2 | exact ((HUt.out).stays (new_below _ _)).stays Hv.out.2); have HTv : Hid (Own1 W1.heap.size Wv tt d.ts) := (by first | exact (Ht.out.1).stays Hv.out.2 | exact ((Ht.out.1).stays (new_below _ _)).stays Hv.out.2); have g1 : Wv.cell? ⟨b, 1, none⟩ = some (.slice a2 n2 k2) := (HKv.out).box.2.1; have g2 : Wv.cell? ⟨b, 2, none⟩ = some (.slice a3 n3 k3) := (HKv.out).box.2.2.1; have g3 : Wv.cell? ⟨b, 3, none⟩ = some (.slice a4 n4 k4) := (HKv.out).box.2.2.2.1; have gl : b < Wv.heap.size := (HKv.out).lt; (try (have hDv : Hid (DBlk Wv Wt.heap.size nilDA) := (dblk_new Wt).same (Hv.out.2.block _ (dblk_new Wt).lt))); (try (have hDv : Hid (DBlk Wv Wu.heap.size nilDA) := hDt.out.same (Hv.out.2.block _ hDt.out.lt))); (try (have hDv : Hid (DBlk Wv W1.heap.size nilDA) := hDt.out.same (Hv.out.2.block _ hDt.out.lt))); (try (have x0 := hDv.out.fz 0; have x1 := hDv.out.fz 1; have x2 := hDv.out.fz 2; have x3 := hDv.out.fz 3; have y0 := hDv.out.box.1; have y1 := hDv.out.box.2.1; have y2 := hDv.out.box.2.2.1; have y3 := hDv.out.box.2.2.2.1; (try simp only at y0 y1 y2 y3))); have hbD : ¬ b = Wt.heap.size := (by omega); have hbD' : ¬ Wt.heap.size = b := (by omega); have hbD2 : ¬ b = Wu.heap.size := (by omega); have hbD2' : ¬ Wu.heap.size = b := (by omega); have hbD3 : ¬ b = W1.heap.size := (by omega); have hbD3' : ¬ W1.heap.size = b := (by omega)))
    all_goals
      go_wp2_with fail
      go_meet
      first
        | exact ⟨_, tu, tt, tb, rfl, cps_new HUv.out HTv.out Hv.out.1 HBv.out⟩
        | exact ⟨_, tu, tt, tb, rfl, cps_set HUv.out HTv.out Hv.out.1 HBv.out hDv.out (by first | exact HBt.out.size | exact HBu.out.size | exact Nat.le_refl _)⟩
  case rest =>
    obtain ⟨D, tu, tt, tb, rfl, HC⟩ := hcut
    clear HB0 HD0 HK0 c1 c2 c3 hbl
    have HCN : Hid (∃ tn : Sl, CpN W1 wc D ⟨tn, tu, tt, tb⟩ ⟨d.ns.take 0, d.us, d.ts, d.raw⟩) := ⟨_, HC.out.start⟩
    have c0 : wc.cell? ⟨b, 0, none⟩ = some (.slice a1 n1 k1) := (HS1.out.1.same (HC.out.bel.block b HS1.out.1.lt)).box.1
    have hn1 : d.ns.length = n1 := HS1.out.2.2.1.h1.len
    have HLN : Hid (d.ns.length = n1) := hn1
    have hn1b : n1 ≤ 1000 := by rw [← hn1]; exact HB.out.n
    have HNN : Hid (∀ n ∈ d.ns, nsz n ≤ 1000000000000) := hN
    clear HC hn1 hN hB HB HT
    go_wp2_with fail
    clear c0
    go_loopw [19] (fun v wr => ∃ k : Nat, k ≤ n1 ∧ v = .int .i64 (k : Int) ∧ Hid (∃ tn : Sl, CpN W1 wr D ⟨tn, tu, tt, tb⟩ ⟨d.ns.take k, d.us, d.ts, d.raw⟩)) (fun v _ => n1 - (intOf v).toNat)
    case atStart => exact ⟨0, Nat.zero_le _, rfl, HCN⟩
    case round =>
      clear HCN
      obtain ⟨k, hk, rfl, HG⟩ := hrel
      obtain ⟨tn, HGn⟩ : ∃ tn : Sl, Hid (CpN W1 wr D ⟨tn, tu, tt, tb⟩ ⟨d.ns.take k, d.us, d.ts, d.raw⟩) := HG.out
      clear HG
      have HG : Hid (CpN W1 wr D ⟨tn, tu, tt, tb⟩ ⟨d.ns.take k, d.us, d.ts, d.raw⟩) := HGn.out
      clear HGn
      by_cases hlt : k < n1
      · have hlt' : (k : Int) < (n1 : Int) := by omega
        have hki : k < d.ns.length := by rw [HLN.out]; exact hlt
        obtain ⟨b1, o1, ha, hbl1, y, hy, hyr⟩ := (HS1.out.2.2.1.h1.below HG.out.bel).at k hki
        simp only at ha
        subst ha
        have hyn : Nm wr y.a y.n d.ns[k] := ⟨hyr.rd, hyr.len, HNN.out _ (List.getElem_mem hki)⟩
        have KCP : Hid (Calls Try.prog 45 #[.slice y.a y.n y.c] wr.drew (CopyPost d.ns[k] 1000000000000 wr.drew)) := pcopy_any y.a y.n y.c d.ns[k] wr.drew ⟨hyn.rd.below (Below.refl _ _).drew, hyn.len, hyn.sz⟩
        have hb1s : W1.heap.size ≤ wr.heap.size := HG.out.bel.size
        have KC2 : Hid (Calls Try.prog 45 #[.slice y.a y.n y.c] wr.drew fun e w' => ∃ s5 : Sl, e = .returned (.slice s5.a s5.n s5.c) ∧ Hid (Own1 W1.heap.size w' s5 d.ns[k] ∧ Below wr.drew.heap.size wr.drew w')) := by
          refine Calls.mono KCP.out ?_
          rintro e w' ⟨v, ys, rfl, H⟩
          obtain ⟨q1, q2, q3⟩ := H.out
          obtain ⟨ao, rfl, _⟩ := q1.shape
          exact ⟨⟨ao, _, _⟩, rfl, ⟨ys, q1.mono hb1s, q2⟩, q3⟩
        clear KCP
        have HTK : Hid (d.ns.take (k + 1) = d.ns.take k ++ [d.ns[k]]) := List.take_succ_eq_append_getElem hki
        have HKL : Hid ((d.ns.take k).length ≤ 1000) := by show _ ≤ _; rw [List.length_take]; omega
        clear hyr hyn
        generalize d.ns[k] = nm at *
        generalize d.ns.take k = nk at *
        have c0 : wr.cell? ⟨D, 0, none⟩ = some (.slice tn.a tn.n tn.c) := HG.out.blk.box.1
        have z0 := HG.out.blk.fz 0
        have hDl := HG.out.blk.lt
        go_wp2_with fail
        go_region_law (first
          | (refine st_n1 rfl _ _ rfl W1.heap.size tn nk rfl (HG5.out.go (new_below _ _)).own.1 ⟨W5.heap.size, 0, none⟩ rfl s5 nm (one_n W5 s5) (H5.out.1.stays (new_below _ _)) HKL.out (HG5.out.go (new_below _ _)).bel.size ?_; intro t7 W7 H7 HX7; have HD7 : Hid (DBlk W7 D ⟨tn, tu, tt, tb⟩) := (HG5.out.go (new_below _ _)).blk.offTy HX7.out; have f0 : W7.cell? ⟨D, 0, none⟩ = some (.slice tn.a tn.n tn.c) := HD7.out.box.1; have fz0 := HD7.out.fz 0; have fDl := HD7.out.lt)
          | (go_simp; go_at_call 45; refine KC2.out.mono ?_; rintro e W5 ⟨s5, rfl, H5⟩; have HG5 : Hid (CpN W1 W5 D ⟨tn, tu, tt, tb⟩ ⟨nk, d.us, d.ts, d.raw⟩) := (HG.out.go (Below.refl _ _).drew).go H5.out.2; have e0 : W5.cell? ⟨D, 0, none⟩ = some (.slice tn.a tn.n tn.c) := HG5.out.blk.box.1; have ez := HG5.out.blk.fz 0; have eDl := HG5.out.blk.lt))
        all_goals
          have HG8 : Hid (CpN W1 (W7.setCell ⟨D, 0, none⟩ (.slice t7.a t7.n t7.c)) D ⟨t7, tu, tt, tb⟩ ⟨nk ++ [nm], d.us, d.ts, d.raw⟩) := (HG5.out.go (new_below _ _)).step H7.out HX7.out
          rw [← HTK.out] at HG8
          go_wp2_with fail
          exact ⟨⟨k + 1, by omega, by go_num, ⟨t7, HG8.out⟩⟩, by simp [intOf]; omega⟩
      · have hge : ¬ (k : Int) < (n1 : Int) := by omega
        have hkn : k = n1 := by omega
        have HGE : Hid (CpN W1 wr D ⟨tn, tu, tt, tb⟩ d) := by
          have := HG.out
          rw [List.take_of_length_le (by rw [HLN.out]; omega)] at this
          exact this
        clear HG
        have d0 : wr.cell? ⟨D, 0, none⟩ = some (.slice tn.a tn.n tn.c) := HGE.out.blk.box.1
        have d1 : wr.cell? ⟨D, 1, none⟩ = some (.slice tu.a tu.n tu.c) := HGE.out.blk.box.2.1
        have d2 : wr.cell? ⟨D, 2, none⟩ = some (.slice tt.a tt.n tt.c) := HGE.out.blk.box.2.2.1
        have d3 : wr.cell? ⟨D, 3, none⟩ = some (.slice tb.a tb.n tb.c) := HGE.out.blk.box.2.2.2.1
        have HRB : Hid (DBlk wr (b + 1) nilDA) := HS1.out.2.1.same (HGE.out.bel.block _ HS1.out.2.1.lt)
        have r0 : wr.cell? ⟨b + 1, 0, none⟩ = some (.slice none 0 0) := HRB.out.box.1
        have r1 : wr.cell? ⟨b + 1, 1, none⟩ = some (.slice none 0 0) := HRB.out.box.2.1
        have r2 : wr.cell? ⟨b + 1, 2, none⟩ = some (.slice none 0 0) := HRB.out.box.2.2.1
        have r3 : wr.cell? ⟨b + 1, 3, none⟩ = some (.slice none 0 0) := HRB.out.box.2.2.2.1
        have z0 := HRB.out.fz 0
        have z1 := HRB.out.fz 1
        have z2 := HRB.out.fz 2
        have z3 := HRB.out.fz 3
        have hbl := HRB.out.lt
        have hDl := HGE.out.blk.lt
        go_wp2_with fail
        have hW2 : W1.heap.size = b + 2 := HS1.out.2.2.2.2
        have HBW : Below w.heap.size w wr := by
          have h1 := HS1.out.2.2.2.1
          have h2 := Hb.out
          rw [h2] at h1
          exact h1.trans (HGE.out.bel.mono h1.size)
        have HX := ret4 HRB.out HBW (by have := Hb.out; omega) ⟨tn, tu, tt, tb⟩
        have HY : DOwn w.heap.size (set4 wr (b + 1) ⟨tn, tu, tt, tb⟩) ⟨tn, tu, tt, tb⟩ d := HGE.out.own.ret4 (by omega) (by have := Hb.out; omega)
        have k0 := HX.1.box.1
        have k1' := HX.1.box.2.1
        have k2' := HX.1.box.2.2.1
        have k3' := HX.1.box.2.2.2.1
        simp only [set4] at k0 k1' k2' k3'
        refine bodyPost_ret (v := .agg #[.slice tn.a tn.n tn.c, .slice tu.a tu.n tu.c, .slice tt.a tt.n tt.c, .slice tb.a tb.n tb.c]) ?_ rfl ⟨⟨tn, tu, tt, tb⟩, rfl, HY, HX.2⟩
        simp [results, Try.results16, go_sem, k0, k1', k2', k3']
end Go.Proofs.Ytdeoembjfdbbkaa
/- The program's Fold. -/
namespace Go.Proofs.Ytdeoembjfdbbkaa
open Go.ChangeShapes Go.WideShapes Go.ChangeAt Go.RowKit
set_option linter.unusedVariables false
set_option linter.unusedSimpArgs false

theorem fieldv0 (a b c d e f g h : Value) (w : World) : (Instr.field 58 (.agg #[a, b, c, d, e, f, g, h]) 0).run Try.prog w = .ok a w := by kernel_rfl
attribute [local go_sem] fieldv0
theorem foldN_fb (n : List ByteArray) : foldN n = n.map fb := rfl
/-- What Fold makes of data. -/
theorem fold_nn (t : Nat) (d : Dat) : foldD t d = if (fs t).nn = 0 then d else ⟨d.ns.map foldN, d.us, d.ts, d.raw⟩ := by
  have h : (mayT t = true ∧ (shp t).nn ≠ 0) ↔ (fs t).nn ≠ 0 := by
    rcases fs_cases t with ⟨ht, e⟩ | ⟨ht, e⟩ | ⟨ht, e⟩ | ⟨ht, e⟩ | ⟨ht, e⟩ | ⟨ht, e⟩ | ⟨ht, e⟩ | ⟨ht, e⟩ | ⟨ht, e⟩
    · subst ht; simp [e, shp, mayT]
    · subst ht; simp [e, shp, mayT]
    · rcases ht with rfl | rfl | rfl <;> simp [e, shp, mayT]
    · subst ht; simp [e, shp, mayT]
    · subst ht; simp [e, shp, mayT]
    · subst ht; simp [e, shp, mayT]
    · subst ht; simp [e, shp, mayT]
    · subst ht; simp [e, shp, mayT]
    · obtain ⟨h1, h2, h3, h4, h5, h6, h7, h8, h9, h10⟩ := ht
      have es' : shp t = ⟨0, 0, 0, -1, 0⟩ := by unfold shp; simp [h1, h2, h3, h4, h5, h6, h7, h8, h9, h10]
      simp [e, es']
  unfold foldD
  by_cases hn : (fs t).nn = 0
  · rw [if_pos hn, if_neg (fun x => (h.1 x) hn)]
  · rw [if_neg hn, if_pos (h.2 hn)]
theorem OwnN.set {B : Nat} {w : World} {g n c k : Nat} {nss : List (List ByteArray)} {s : Sl} {nm : List ByteArray} (h : OwnN B w (.slice (some ⟨g, 0, none⟩) n c) nss) (hk : k < nss.length) (hs : Own1 B w s nm) : OwnN B (w.setCell ⟨g, k, none⟩ (.slice s.a s.n s.c)) (.slice (some ⟨g, 0, none⟩) n c) (nss.set k nm) := by
  obtain ⟨xs, h1, h2⟩ := h
  rcases h1 with ⟨e, _, _⟩ | ⟨g', e, hg, hblk, hn, hm⟩
  · cases e
  · have e1 : g = g' ∧ n = nss.length ∧ c = xs.length := by
      injection e with e1 e2 e3
      injection e1 with e1
      injection e1 with e1
      exact ⟨e1, e2, e3⟩
    obtain ⟨rfl, hn2, hc⟩ := e1
    have hkb : ∀ j, B ≤ j → j < w.heap.size → (∃ zs, BlkV w j 9 zs) → (w.setCell ⟨g, k, none⟩ (.slice s.a s.n s.c)).heap[j]? = w.heap[j]? := by
      rintro j _ _ ⟨zs, hz⟩
      exact Below.heap_setCell _ _ _ j (by rintro rfl; exact absurd (blk_ty hz hblk) (by decide))
    refine ⟨xs.set k (.slice s.a s.n s.c), .inr ⟨g, by rw [List.length_set, List.length_set, hn2, hc], hg, hblk.stored k _, by rw [List.length_set, List.length_set]; exact hn, by rw [List.length_set]; exact hm⟩, fun i hi => ?_⟩
    rw [List.length_set] at hi
    by_cases hik : i = k
    · subst hik
      refine ⟨s, ?_, ?_⟩
      · rw [List.getElem?_set_self (by omega)]
      · rw [List.getElem_set_self]; exact hs.keep hkb
    · obtain ⟨z, z1, z2⟩ := h2 i hi
      refine ⟨z, ?_, ?_⟩
      · rw [List.getElem?_set_ne (fun e => hik e.symm)]; exact z1
      · rw [List.getElem_set_ne (fun e => hik e.symm)]; exact z2.keep hkb
theorem OwnN.blk {B : Nat} {w : World} {s : Sl} {nss : List (List ByteArray)} (h : OwnN B w (.slice s.a s.n s.c) nss) (hn : 0 < nss.length) : ∃ g xs, s.a = some ⟨g, 0, none⟩ ∧ B ≤ g ∧ BlkV w g 53 xs ∧ nss.length ≤ xs.length := by
  obtain ⟨xs, h1, h2⟩ := h
  rcases h1 with ⟨e, e0, _⟩ | ⟨g', e, hg, hblk, hnn, hm⟩
  · omega
  · injection e with e1 e2 e3
    exact ⟨g', xs, e1, hg, hblk, hnn⟩
/-- A cell of a list of names is written: all else of the data stays. -/
theorem CpN.put {W1 W : World} {D : Nat} {g n c k : Nat} {tu tt tb : Sl} {d : Dat} (h : CpN W1 W D ⟨⟨some ⟨g, 0, none⟩, n, c⟩, tu, tt, tb⟩ d) (hk : k < d.ns.length) {s : Sl} {nm : List ByteArray} (hs : Own1 W1.heap.size W s nm) :
    CpN W1 (W.setCell ⟨g, k, none⟩ (.slice s.a s.n s.c)) D ⟨⟨some ⟨g, 0, none⟩, n, c⟩, tu, tt, tb⟩ ⟨d.ns.set k nm, d.us, d.ts, d.raw⟩ := by
  obtain ⟨⟨o1, o2, o3, o4⟩, hD, hb, hl⟩ := h
  obtain ⟨g', xs, e1, hg, hblk, _⟩ := o1.blk (by omega)
  have e2 : g = g' := by injection e1 with e1; injection e1
  subst e2
  have hgr : ∃ o, W.grownBy (W.setCell ⟨g, k, none⟩ (.slice s.a s.n s.c)) o ∧ ∀ j, o = some j → W1.heap.size ≤ j ∧ ∃ zs, BlkV W j 53 zs := ⟨some g, ⟨rfl, rfl, rfl, by simp [World.setCell], fun j _ hne => Below.heap_setCell _ _ _ j (fun e => hne (by rw [e]))⟩, by rintro j ⟨⟩; exact ⟨hg, xs, hblk⟩⟩
  exact ⟨⟨o1.set hk hs, o2.offTy hgr, o3.offTy hgr, o4.offTy hgr⟩, hD.offTy hgr, hb.setCell (p := ⟨g, k, none⟩) hg _, hl⟩
theorem NRd.sz {w : World} {s : Sl} {nss : List (List ByteArray)} (h : NRd w s nss) (hn : ∀ n ∈ nss, nsz n ≤ 1000000000000) (i : Nat) (hi : i < nss.length) : ∃ b o, s.a = some ⟨b, o, none⟩ ∧ b < w.heap.size ∧ ∃ x : Sl, w.cell? ⟨b, o + i, none⟩ = some (.slice x.a x.n x.c) ∧ Nm w x.a x.n nss[i] := by
  obtain ⟨b, o, h1, h2, x, h3, h4⟩ := h.at i hi
  exact ⟨b, o, h1, h2, x, h3, h4.rd, h4.len, hn _ (List.getElem_mem hi)⟩
set_option maxRecDepth 100000 in
set_option maxHeartbeats 8000000 in
theorem fold5_any (t : Nat) (x : DA) (d : Dat) (w : World) (h : DRd w x d) (hB : Bd d) (hN : ∀ n ∈ d.ns, nsz n ≤ 1000000000000) :
    Calls Try.prog 15 #[.int .u16 t, .agg #[.slice x.p1.a x.p1.n x.p1.c, .slice x.p2.a x.p2.n x.p2.c, .slice x.p3.a x.p3.n x.p3.c, .slice x.p4.a x.p4.n x.p4.c]] w fun e w' => ∃ y : DA, e = .returned (.agg #[.slice y.p1.a y.p1.n y.p1.c, .slice y.p2.a y.p2.n y.p2.c, .slice y.p3.a y.p3.n y.p3.c, .slice y.p4.a y.p4.n y.p4.c]) ∧ Hid (DOwn w.heap.size w' y (foldD t d) ∧ Below w.heap.size w w') := by
  have KC : Hid (∀ W, DRd W x d → Calls Try.prog 16 #[.agg #[.slice x.p1.a x.p1.n x.p1.c, .slice x.p2.a x.p2.n x.p2.c, .slice x.p3.a x.p3.n x.p3.c, .slice x.p4.a x.p4.n x.p4.c]] W fun e w' => ∃ y : DA, e = .returned (.agg #[.slice y.p1.a y.p1.n y.p1.c, .slice y.p2.a y.p2.n y.p2.c, .slice y.p3.a y.p3.n y.p3.c, .slice y.p4.a y.p4.n y.p4.c]) ∧ Hid (DOwn W.heap.size w' y d ∧ Below W.heap.size W w')) := fun W hW => copy5_any x d W hW hB hN
  have KO : Hid (∀ W, Calls Try.prog 35 #[.int .u16 t] W fun e w' => e = .returned (.agg #[.int .i64 (fs t).nn, .int .i64 (fs t).nf, .int .i64 (fs t).nu, .int .i64 (fs t).wd, .int .i64 (fs t).nt, .int .i64 (fs t).tg, .int .i64 (fs t).tl, .int .i64 (fs t).nr]) ∧ Hid (Below W.heap.size W w')) := fun W => fieldsof_any t W
  have HFD : Hid (foldD t d = if (fs t).nn = 0 then d else ⟨d.ns.map foldN, d.us, d.ts, d.raw⟩) := fold_nn t d
  have hbx := new_below w (.cells #[.slice x.p1.a x.p1.n x.p1.c, .slice x.p2.a x.p2.n x.p2.c, .slice x.p3.a x.p3.n x.p3.c, .slice x.p4.a x.p4.n x.p4.c] 29)
  have hzx : (w.alloc (.cells #[.slice x.p1.a x.p1.n x.p1.c, .slice x.p2.a x.p2.n x.p2.c, .slice x.p3.a x.p3.n x.p3.c, .slice x.p4.a x.p4.n x.p4.c] 29)).heap.size = w.heap.size + 1 := by simp
  have HS : Hid (DBlk ((w.alloc (.cells #[.slice x.p1.a x.p1.n x.p1.c, .slice x.p2.a x.p2.n x.p2.c, .slice x.p3.a x.p3.n x.p3.c, .slice x.p4.a x.p4.n x.p4.c] 29)).alloc (.cells #[.slice none 0 0, .slice none 0 0, .slice none 0 0, .slice none 0 0] 29)) w.heap.size x ∧ DBlk ((w.alloc (.cells #[.slice x.p1.a x.p1.n x.p1.c, .slice x.p2.a x.p2.n x.p2.c, .slice x.p3.a x.p3.n x.p3.c, .slice x.p4.a x.p4.n x.p4.c] 29)).alloc (.cells #[.slice none 0 0, .slice none 0 0, .slice none 0 0, .slice none 0 0] 29)) (w.heap.size + 1) nilDA ∧ DRd ((w.alloc (.cells #[.slice x.p1.a x.p1.n x.p1.c, .slice x.p2.a x.p2.n x.p2.c, .slice x.p3.a x.p3.n x.p3.c, .slice x.p4.a x.p4.n x.p4.c] 29)).alloc (.cells #[.slice none 0 0, .slice none 0 0, .slice none 0 0, .slice none 0 0] 29)) x d ∧ Below w.heap.size w ((w.alloc (.cells #[.slice x.p1.a x.p1.n x.p1.c, .slice x.p2.a x.p2.n x.p2.c, .slice x.p3.a x.p3.n x.p3.c, .slice x.p4.a x.p4.n x.p4.c] 29)).alloc (.cells #[.slice none 0 0, .slice none 0 0, .slice none 0 0, .slice none 0 0] 29)) ∧ ((w.alloc (.cells #[.slice x.p1.a x.p1.n x.p1.c, .slice x.p2.a x.p2.n x.p2.c, .slice x.p3.a x.p3.n x.p3.c, .slice x.p4.a x.p4.n x.p4.c] 29)).alloc (.cells #[.slice none 0 0, .slice none 0 0, .slice none 0 0, .slice none 0 0] 29)).heap.size = w.heap.size + 2) := by
    have h1 : DBlk (w.alloc (.cells #[.slice x.p1.a x.p1.n x.p1.c, .slice x.p2.a x.p2.n x.p2.c, .slice x.p3.a x.p3.n x.p3.c, .slice x.p4.a x.p4.n x.p4.c] 29)) w.heap.size x := heap_alloc_new _ _
    have h2 := dblk_new (w.alloc (.cells #[.slice x.p1.a x.p1.n x.p1.c, .slice x.p2.a x.p2.n x.p2.c, .slice x.p3.a x.p3.n x.p3.c, .slice x.p4.a x.p4.n x.p4.c] 29))
    rw [hzx] at h2
    have h3 := new_below (w.alloc (.cells #[.slice x.p1.a x.p1.n x.p1.c, .slice x.p2.a x.p2.n x.p2.c, .slice x.p3.a x.p3.n x.p3.c, .slice x.p4.a x.p4.n x.p4.c] 29)) (.cells #[.slice none 0 0, .slice none 0 0, .slice none 0 0, .slice none 0 0] 29)
    exact ⟨h1.same (h3.block _ h1.lt), h2, (h.below hbx).below h3, hbx.trans (h3.mono hbx.size), by simp⟩
  have HN : Hid (∀ n ∈ d.ns, nsz n ≤ 1000000000000) := hN
  have hnl := hB.n
  clear h hbx hzx hN hB
  generalize foldD t d = FD at *
  generalize (fs t) = f at *
  obtain ⟨nn, nf, nu, wd, nt, tg, tl, nr⟩ := f
  simp only at KO HFD
  go_enter Try.func15, Try.ntmps15
  go_upto_region 1 with fail
  generalize ((w.alloc (.cells #[.slice x.p1.a x.p1.n x.p1.c, .slice x.p2.a x.p2.n x.p2.c, .slice x.p3.a x.p3.n x.p3.c, .slice x.p4.a x.p4.n x.p4.c] 29)).alloc (.cells #[.slice none 0 0, .slice none 0 0, .slice none 0 0, .slice none 0 0] 29)) = W1 at *
  obtain ⟨b, hb⟩ : ∃ b, b = w.heap.size := ⟨_, rfl⟩
  rw [← hb] at HS ⊢
  have Hb : Hid (b = w.heap.size) := hb
  clear hb
  have c0 : W1.cell? ⟨b, 0, none⟩ = some (.slice x.p1.a x.p1.n x.p1.c) := HS.out.1.box.1
  have c1 : W1.cell? ⟨b, 1, none⟩ = some (.slice x.p2.a x.p2.n x.p2.c) := HS.out.1.box.2.1
  have c2 : W1.cell? ⟨b, 2, none⟩ = some (.slice x.p3.a x.p3.n x.p3.c) := HS.out.1.box.2.2.1
  have c3 : W1.cell? ⟨b, 3, none⟩ = some (.slice x.p4.a x.p4.n x.p4.c) := HS.out.1.box.2.2.2.1
  have hbl := HS.out.1.lt
  go_wp2_with fail
  refine (KC.out _ HS.out.2.2.1).mono ?_
  rintro e W2 ⟨⟨⟨t1, m1, j1⟩, tu, tt, tb⟩, rfl, H2⟩
  simp only at H2 ⊢
  clear KC c0 c1 c2 c3 hbl
  have hn2 := new_below W2 (.cells #[.slice t1 m1 j1, .slice tu.a tu.n tu.c, .slice tt.a tt.n tt.c, .slice tb.a tb.n tb.c] 29)
  have HC2 : Hid (CpN W1 (W2.alloc (.cells #[.slice t1 m1 j1, .slice tu.a tu.n tu.c, .slice tt.a tt.n tt.c, .slice tb.a tb.n tb.c] 29)) W2.heap.size ⟨⟨t1, m1, j1⟩, tu, tt, tb⟩ d) := ⟨H2.out.1.stays hn2, heap_alloc_new _ _, H2.out.2.trans (hn2.mono H2.out.2.size), H2.out.2.size⟩
  clear hn2 H2
  go_upto_region 2 with fail
  generalize W2.alloc (.cells #[.slice t1 m1 j1, .slice tu.a tu.n tu.c, .slice tt.a tt.n tt.c, .slice tb.a tb.n tb.c] 29) = W3 at *
  generalize W2.heap.size = D at *
  go_wp2_with fail
  refine (KO.out _).mono ?_
  rintro e W4 ⟨rfl, H4⟩
  have HC4 : Hid (CpN W1 W4 D ⟨⟨t1, m1, j1⟩, tu, tt, tb⟩ d) := HC2.out.go H4.out
  clear HC2 H4 KO
  have HRN : Hid (∀ W, Below W1.heap.size W1 W → DBlk W (b + 1) nilDA) := fun W hW => HS.out.2.1.same (hW.block _ HS.out.2.1.lt)
  have hW2 : W1.heap.size = b + 2 := HS.out.2.2.2.2
  have HBW : Hid (∀ W, Below W1.heap.size W1 W → Below w.heap.size w W) := fun W hW => by
    have h1 := HS.out.2.2.2.1
    have h2 := Hb.out
    rw [h2] at h1
    exact h1.trans (hW.mono h1.size)
  have HRET : Hid (∀ W (z : DA) dd, CpN W1 W D z dd → DBlk (set4 W (b + 1) z) (b + 1) z ∧ DOwn w.heap.size (set4 W (b + 1) z) z dd ∧ Below w.heap.size w (set4 W (b + 1) z)) := by
    intro W z dd hc
    have h2 := Hb.out
    have hx := ret4 (HRN.out W hc.bel) (HBW.out W hc.bel) (by omega) z
    exact ⟨hx.1, hc.own.ret4 (by omega) (by omega), hx.2⟩
  by_cases hnn : nn = 0
  · have hnb : ((nn : Int) == 0) = true := by simp [hnn]
    have HF : Hid (FD = d) := by have := HFD.out; rw [if_pos hnn] at this; exact this
    clear HFD
    have d0 : W4.cell? ⟨D, 0, none⟩ = some (.slice t1 m1 j1) := HC4.out.blk.box.1
    have d1 : W4.cell? ⟨D, 1, none⟩ = some (.slice tu.a tu.n tu.c) := HC4.out.blk.box.2.1
    have d2 : W4.cell? ⟨D, 2, none⟩ = some (.slice tt.a tt.n tt.c) := HC4.out.blk.box.2.2.1
    have d3 : W4.cell? ⟨D, 3, none⟩ = some (.slice tb.a tb.n tb.c) := HC4.out.blk.box.2.2.2.1
    have r0 : W4.cell? ⟨(b + 1), 0, none⟩ = some (.slice none 0 0) := (HRN.out W4 HC4.out.bel).box.1
    have r1 : W4.cell? ⟨(b + 1), 1, none⟩ = some (.slice none 0 0) := (HRN.out W4 HC4.out.bel).box.2.1
    have r2 : W4.cell? ⟨(b + 1), 2, none⟩ = some (.slice none 0 0) := (HRN.out W4 HC4.out.bel).box.2.2.1
    have r3 : W4.cell? ⟨(b + 1), 3, none⟩ = some (.slice none 0 0) := (HRN.out W4 HC4.out.bel).box.2.2.2.1
    have z0 := (HRN.out W4 HC4.out.bel).fz 0
    have z1 := (HRN.out W4 HC4.out.bel).fz 1
    have z2 := (HRN.out W4 HC4.out.bel).fz 2
    have z3 := (HRN.out W4 HC4.out.bel).fz 3
    have hl1 := (HRN.out W4 HC4.out.bel).lt
    have hDl := HC4.out.blk.lt
    subst hnn
    go_wp2_with fail
    obtain ⟨X1, X2, X3⟩ := HRET.out W4 ⟨⟨t1, m1, j1⟩, tu, tt, tb⟩ _ HC4.out
    have k0 := X1.box.1
    have k1 := X1.box.2.1
    have k2 := X1.box.2.2.1
    have k3 := X1.box.2.2.2.1
    simp only [set4] at k0 k1 k2 k3
    refine bodyPost_ret (v := .agg #[.slice t1 m1 j1, .slice tu.a tu.n tu.c, .slice tt.a tt.n tt.c, .slice tb.a tb.n tb.c]) ?_ rfl ⟨⟨⟨t1, m1, j1⟩, tu, tt, tb⟩, rfl, (by rw [HF.out]; exact X2), X3⟩
    simp [results, Try.results15, go_sem, k0, k1, k2, k3]
  · have hnb : ((nn : Int) == 0) = false := by simp; omega
    have HF : Hid (FD = ⟨d.ns.map foldN, d.us, d.ts, d.raw⟩) := by have := HFD.out; rw [if_neg hnn] at this; exact this
    clear HFD
    have d0 : W4.cell? ⟨D, 0, none⟩ = some (.slice t1 m1 j1) := HC4.out.blk.box.1
    have d1 : W4.cell? ⟨D, 1, none⟩ = some (.slice tu.a tu.n tu.c) := HC4.out.blk.box.2.1
    have d2 : W4.cell? ⟨D, 2, none⟩ = some (.slice tt.a tt.n tt.c) := HC4.out.blk.box.2.2.1
    have d3 : W4.cell? ⟨D, 3, none⟩ = some (.slice tb.a tb.n tb.c) := HC4.out.blk.box.2.2.2.1
    have hDl := HC4.out.blk.lt
    have hnl2 : d.ns.length = m1 := HC4.out.own.1.rd.len
    have hmb : m1 ≤ 1000 := by omega
    have HLN : Hid (d.ns.length = m1) := hnl2
    clear hnl hnl2
    have hni : ¬ ((nn : Int) = 0) := by omega
    go_wp2_with fail
    clear d0 d1 d2 d3 hDl
    go_loopw [18] (fun v wr => ∃ k : Nat, k ≤ m1 ∧ v = .int .i64 (k : Int) ∧ Hid (CpN W1 wr D ⟨⟨t1, m1, j1⟩, tu, tt, tb⟩ ⟨(d.ns.take k).map foldN ++ d.ns.drop k, d.us, d.ts, d.raw⟩)) (fun v _ => m1 - (intOf v).toNat)
    case atStart => exact ⟨0, Nat.zero_le _, rfl, by simpa using HC4⟩
    case round =>
      clear HC4
      obtain ⟨k, hk, rfl, HG⟩ := hrel
      by_cases hlt : k < m1
      · have hlt' : (k : Int) < (m1 : Int) := by omega
        have hki : k < d.ns.length := by rw [HLN.out]; exact hlt
        have hlen : ((d.ns.take k).map foldN ++ d.ns.drop k).length = m1 := by rw [List.length_append, List.length_map, List.length_take, List.length_drop, HLN.out]; omega
        have hget : ∀ (hh : k < ((d.ns.take k).map foldN ++ d.ns.drop k).length), ((d.ns.take k).map foldN ++ d.ns.drop k)[k] = d.ns[k] := by
          intro hh
          rw [List.getElem_append_right (by rw [List.length_map, List.length_take]; omega)]
          simp [List.length_take, Nat.min_eq_left (Nat.le_of_lt hki)]
        have hset : ((d.ns.take k).map foldN ++ d.ns.drop k).set k (foldN d.ns[k]) = (d.ns.take (k + 1)).map foldN ++ d.ns.drop (k + 1) := by
          rw [List.set_append_right _ _ (by rw [List.length_map, List.length_take]; omega), List.length_map, List.length_take, Nat.min_eq_left (Nat.le_of_lt hki), Nat.sub_self, List.drop_eq_getElem_cons hki, List.set_cons_zero, List.take_succ_eq_append_getElem hki, List.map_append]
          simp
        obtain ⟨g, xs, ha, hgW, hgb, hgl⟩ := HG.out.own.1.blk (by simp only; omega)
        simp only at ha
        subst ha
        obtain ⟨b1, o1, ha, hbl1, s, hy, hyr⟩ := HG.out.own.1.rd.at k (by simp only; omega)
        simp only at ha
        cases ha
        rw [Nat.zero_add] at hy
        simp only at hyr
        rw [hget (by omega)] at hyr
        have KF : Hid (Calls Try.prog 44 #[.slice s.a s.n s.c] wr.drew fun e w' => ∃ s5 : Sl, e = .returned (.slice s5.a s5.n s5.c) ∧ Hid (Own1 W1.heap.size w' s5 (foldN d.ns[k]) ∧ Below wr.drew.heap.size wr.drew w')) := by
          refine Calls.mono (pfold_any s.a s.n s.c d.ns[k] wr.drew ⟨hyr.rd.below (Below.refl _ _).drew, hyr.len, HN.out _ (List.getElem_mem hki)⟩) ?_
          rintro e w' ⟨v, ys, rfl, H⟩
          obtain ⟨q1, q2, q3⟩ := H.out
          obtain ⟨ao, rfl, _⟩ := q1.shape
          have hsz := HG.out.bel.size
          exact ⟨⟨ao, _, _⟩, rfl, ⟨ys, q1.mono hsz, q2⟩, q3⟩
        have HSET : Hid (∀ W (s5 : Sl), CpN W1 W D ⟨⟨some ⟨g, 0, none⟩, m1, j1⟩, tu, tt, tb⟩ ⟨(d.ns.take k).map foldN ++ d.ns.drop k, d.us, d.ts, d.raw⟩ → Own1 W1.heap.size W s5 (foldN d.ns[k]) → CpN W1 (W.setCell ⟨g, k, none⟩ (.slice s5.a s5.n s5.c)) D ⟨⟨some ⟨g, 0, none⟩, m1, j1⟩, tu, tt, tb⟩ ⟨(d.ns.take (k + 1)).map foldN ++ d.ns.drop (k + 1), d.us, d.ts, d.raw⟩) := by
          intro W s5 h1 h2
          have := h1.put (k := k) (by simp only; omega) h2
          simp only at this
          rw [hset] at this
          exact this
        have HBL : Hid (∀ W, CpN W1 W D ⟨⟨some ⟨g, 0, none⟩, m1, j1⟩, tu, tt, tb⟩ ⟨(d.ns.take k).map foldN ++ d.ns.drop k, d.us, d.ts, d.raw⟩ → ∃ xs, BlkV W g 53 xs ∧ k < xs.length) := by
          intro W hW
          obtain ⟨g', xs', e1, _, e3, e4⟩ := hW.own.1.blk (by simp only; omega)
          simp only at e1 e4
          cases e1
          exact ⟨xs', e3, by omega⟩
        clear hyr hget hset hgb hgl hlen
        have c0 : wr.cell? ⟨D, 0, none⟩ = some (.slice (some ⟨g, 0, none⟩) m1 j1) := HG.out.blk.box.1
        have hDl := HG.out.blk.lt
        go_wp2_with fail
        go_region_law (first
          | (go_simp; go_at_call 44; refine KF.out.mono ?_; rintro e W5 ⟨s5, rfl, H5⟩; have HG5 : Hid (CpN W1 W5 D ⟨⟨some ⟨g, 0, none⟩, m1, j1⟩, tu, tt, tb⟩ ⟨(d.ns.take k).map foldN ++ d.ns.drop k, d.us, d.ts, d.raw⟩) := (HG.out.go (Below.refl _ _).drew).go H5.out.2; have e0 : W5.cell? ⟨D, 0, none⟩ = some (.slice (some ⟨g, 0, none⟩) m1 j1) := HG5.out.blk.box.1; have eDl := HG5.out.blk.lt; obtain ⟨xs5, hb5, hk5⟩ := HBL.out W5 HG5.out; have e1 := hb5.cell k hk5; have e2 : W5.frozen? ⟨g, k, none⟩ = false := (by have hh : W5.heap[g]? = _ := hb5; simp [World.frozen?, hh]); have ebl := hb5.lt; clear hb5))
        all_goals
          go_wp2_with fail
          exact ⟨⟨k + 1, by omega, by go_num, HSET.out W5 s5 HG5.out H5.out.1⟩, by simp [intOf]; omega⟩
      · have hge : ¬ (k : Int) < (m1 : Int) := by omega
        have HGE : Hid (CpN W1 wr D ⟨⟨t1, m1, j1⟩, tu, tt, tb⟩ ⟨d.ns.map foldN, d.us, d.ts, d.raw⟩) := by
          have := HG.out
          rw [List.take_of_length_le (by rw [HLN.out]; omega), List.drop_eq_nil_of_le (by rw [HLN.out]; omega), List.append_nil] at this
          exact this
        clear HG
        have d0 : wr.cell? ⟨D, 0, none⟩ = some (.slice t1 m1 j1) := HGE.out.blk.box.1
        have d1 : wr.cell? ⟨D, 1, none⟩ = some (.slice tu.a tu.n tu.c) := HGE.out.blk.box.2.1
        have d2 : wr.cell? ⟨D, 2, none⟩ = some (.slice tt.a tt.n tt.c) := HGE.out.blk.box.2.2.1
        have d3 : wr.cell? ⟨D, 3, none⟩ = some (.slice tb.a tb.n tb.c) := HGE.out.blk.box.2.2.2.1
        have r0 : wr.cell? ⟨(b + 1), 0, none⟩ = some (.slice none 0 0) := (HRN.out wr HGE.out.bel).box.1
        have r1 : wr.cell? ⟨(b + 1), 1, none⟩ = some (.slice none 0 0) := (HRN.out wr HGE.out.bel).box.2.1
        have r2 : wr.cell? ⟨(b + 1), 2, none⟩ = some (.slice none 0 0) := (HRN.out wr HGE.out.bel).box.2.2.1
        have r3 : wr.cell? ⟨(b + 1), 3, none⟩ = some (.slice none 0 0) := (HRN.out wr HGE.out.bel).box.2.2.2.1
        have z0 := (HRN.out wr HGE.out.bel).fz 0
        have z1 := (HRN.out wr HGE.out.bel).fz 1
        have z2 := (HRN.out wr HGE.out.bel).fz 2
        have z3 := (HRN.out wr HGE.out.bel).fz 3
        have hl1 := (HRN.out wr HGE.out.bel).lt
        have hDl := HGE.out.blk.lt
        go_wp2_with fail
        obtain ⟨X1, X2, X3⟩ := HRET.out wr ⟨⟨t1, m1, j1⟩, tu, tt, tb⟩ _ HGE.out
        have k0 := X1.box.1
        have k1 := X1.box.2.1
        have k2 := X1.box.2.2.1
        have k3 := X1.box.2.2.2.1
        simp only [set4] at k0 k1 k2 k3
        refine bodyPost_ret (v := .agg #[.slice t1 m1 j1, .slice tu.a tu.n tu.c, .slice tt.a tt.n tt.c, .slice tb.a tb.n tb.c]) ?_ rfl ⟨⟨⟨t1, m1, j1⟩, tu, tt, tb⟩, rfl, (by rw [HF.out]; exact X2), X3⟩
        simp [results, Try.results15, go_sem, k0, k1, k2, k3]
end Go.Proofs.Ytdeoembjfdbbkaa
/- The program's order of data. -/
namespace Go.Proofs.Ytdeoembjfdbbkaa
open Go.ChangeShapes Go.WideShapes Go.ChangeAt Go.RowKit
set_option linter.unusedVariables false
set_option linter.unusedSimpArgs false

theorem bytesOf_rd (a : Option Addr) (n c : Nat) (zs : List Int) (w : World) (hr : Rd w a zs) (hl : zs.length = n) : (Extern.Bytes.bytesOf (.slice a n c)).run Try.prog w = .ok ⟨(txt zs).toArray⟩ w := by
  cases a with
  | none =>
    have := rd_none hr
    subst this
    rfl
  | some x =>
    show (Extern.Bytes.loadBytes x n .empty).run Try.prog w = _
    rw [← hl, Lib.run_loadBytesX w zs x .empty (fun j y hj => by
      have hjl : j < zs.length := (List.getElem?_eq_some_iff.1 hj).1
      have ej := (List.getElem?_eq_some_iff.1 hj).2
      rcases hr.1 with h1 | ⟨b, o, h, _, h2⟩
      · subst h1; simp at hjl
      · cases h
        have e := h2 j hjl
        have e2 : (⟨b, o, none⟩ : Addr).add j = ⟨b, o + j, none⟩ := by unfold Addr.add; split <;> simp_all
        rw [e2, e, List.getD_eq_getElem?_getD, hj]
        rfl)]
    congr 1
    apply ByteArray.ext
    show (#[] : Array UInt8) ++ (Lib.bytesOf zs).toArray = (txt zs).toArray
    simp [Lib.bytesOf, txt]
theorem call88 (a b : Option Addr) (n c m e : Nat) (zs ys : List Int) (w : World) (hr : Rd w a zs) (hl : zs.length = n) (hr' : Rd w b ys) (hl' : ys.length = m) : (callFunc 88 #[.slice a n c, .slice b m e]).run Try.prog w = .ok (.value (.int .i64 (cmpL zs ys))) w := by
  rw [run_callFunc_extern Try.func88 (by kernel_rfl) (by kernel_rfl) (by kernel_rfl) (by kernel_rfl) _ w]
  show ((Extern.BytealgCompare.compare #[.slice a n c, .slice b m e]).run Try.prog w).andThen _ = _
  have h : (Extern.BytealgCompare.compare #[.slice a n c, .slice b m e]).run Try.prog w = .ok (.int .i64 (cmpL zs ys)) w := by
    change Sem.run Try.prog (do pure (goInt (Extern.BytealgCompare.cmp (← Extern.Bytes.bytesOf (.slice a n c)) (← Extern.Bytes.bytesOf (.slice b m e))))) w = _
    simp only [Sem.run_bind, bytesOf_rd a n c zs w hr hl, bytesOf_rd b m e ys w hr' hl', Sem.run_pure, Result.andThen]
    rw [Lib.cmp_eq]
    rfl
  rw [h]
  rfl
set_option maxRecDepth 100000 in
set_option maxHeartbeats 400000 in
theorem bcmp_any (a b : Option Addr) (n c m e : Nat) (zs ys : List Int) (w : World) (hr : Rd w a zs) (hl : zs.length = n) (hr' : Rd w b ys) (hl' : ys.length = m) : Calls Try.prog 68 #[.slice a n c, .slice b m e] w fun r w' => r = .returned (.int .i64 (cmpL zs ys)) ∧ w' = w := by
  have h := call88 a b n c m e zs ys w hr hl hr' hl'
  clear hr hr' hl hl'
  generalize cmpL zs ys = r at *
  go_enter Try.func68, Try.ntmps68
  go_wp2
  go_ret
  exact ⟨rfl, rfl⟩
theorem foldN_len (n : List ByteArray) : (foldN n).length = n.length := by simp [foldN]
theorem foldD_bd {t : Nat} {d : Dat} (h : Bd d) : Bd (foldD t d) := by
  unfold foldD
  split
  · refine ⟨by simpa using h.n, ?_, h.u, h.t, h.r⟩
    intro x hx
    obtain ⟨n, hn, rfl⟩ := List.mem_map.1 hx
    rw [foldN_len]
    exact h.nl n hn
  · exact h
theorem ck_nsz {t : Nat} {d : Dat} (h : checkF t d = 0) : ∀ n ∈ d.ns, nsz n ≤ 1000000000000 := by
  intro n hn
  have := (nck_small ((check_parts h).2.2.1 n hn)).1
  omega
set_option maxRecDepth 100000 in
set_option maxHeartbeats 4000000 in
/-- The bytes of folded data. -/
theorem folded_any (t : Nat) (x : DA) (d : Dat) (w : World) (h : DRd w x d) (hck : checkF t d = 0) (hB : Bd d) :
    Calls Try.prog 69 #[.int .u16 t, .agg #[.slice x.p1.a x.p1.n x.p1.c, .slice x.p2.a x.p2.n x.p2.c, .slice x.p3.a x.p3.n x.p3.c, .slice x.p4.a x.p4.n x.p4.c]] w (WPost (writeF t (foldD t d)) w) := by
  have KO : Hid (∀ W, Calls Try.prog 35 #[.int .u16 t] W fun e w' => e = .returned (.agg #[.int .i64 (fs t).nn, .int .i64 (fs t).nf, .int .i64 (fs t).nu, .int .i64 (fs t).wd, .int .i64 (fs t).nt, .int .i64 (fs t).tg, .int .i64 (fs t).tl, .int .i64 (fs t).nr]) ∧ Hid (Below W.heap.size W w')) := fun W => fieldsof_any t W
  have KF : Hid (∀ W, DRd W x d → Calls Try.prog 15 #[.int .u16 t, .agg #[.slice x.p1.a x.p1.n x.p1.c, .slice x.p2.a x.p2.n x.p2.c, .slice x.p3.a x.p3.n x.p3.c, .slice x.p4.a x.p4.n x.p4.c]] W fun e w' => ∃ y : DA, e = .returned (.agg #[.slice y.p1.a y.p1.n y.p1.c, .slice y.p2.a y.p2.n y.p2.c, .slice y.p3.a y.p3.n y.p3.c, .slice y.p4.a y.p4.n y.p4.c]) ∧ Hid (DOwn W.heap.size w' y (foldD t d) ∧ Below W.heap.size W w')) := fun W hW => fold5_any t x d W hW hB (ck_nsz hck)
  have KW : Hid (∀ W y, DRd W y (foldD t d) → Calls Try.prog 36 #[.agg #[.int .i64 (fs t).nn, .int .i64 (fs t).nf, .int .i64 (fs t).nu, .int .i64 (fs t).wd, .int .i64 (fs t).nt, .int .i64 (fs t).tg, .int .i64 (fs t).tl, .int .i64 (fs t).nr], .agg #[.slice y.p1.a y.p1.n y.p1.c, .slice y.p2.a y.p2.n y.p2.c, .slice y.p3.a y.p3.n y.p3.c, .slice y.p4.a y.p4.n y.p4.c]] W (WPost (writeF t (foldD t d)) W)) := fun W y hW => write_yes t y (foldD t d) W hW (by rw [foldD_check]; exact hck) (foldD_bd hB)
  have hbx := new_below w (.cells #[.slice x.p1.a x.p1.n x.p1.c, .slice x.p2.a x.p2.n x.p2.c, .slice x.p3.a x.p3.n x.p3.c, .slice x.p4.a x.p4.n x.p4.c] 29)
  have HS : Hid (DBlk (w.alloc (.cells #[.slice x.p1.a x.p1.n x.p1.c, .slice x.p2.a x.p2.n x.p2.c, .slice x.p3.a x.p3.n x.p3.c, .slice x.p4.a x.p4.n x.p4.c] 29)) w.heap.size x ∧ DRd (w.alloc (.cells #[.slice x.p1.a x.p1.n x.p1.c, .slice x.p2.a x.p2.n x.p2.c, .slice x.p3.a x.p3.n x.p3.c, .slice x.p4.a x.p4.n x.p4.c] 29)) x d ∧ Below w.heap.size w (w.alloc (.cells #[.slice x.p1.a x.p1.n x.p1.c, .slice x.p2.a x.p2.n x.p2.c, .slice x.p3.a x.p3.n x.p3.c, .slice x.p4.a x.p4.n x.p4.c] 29))) := ⟨heap_alloc_new _ _, h.below hbx, hbx⟩
  clear h hbx hck hB
  generalize writeF t (foldD t d) = R at *
  generalize foldD t d = FD at *
  generalize (fs t) = f at *
  obtain ⟨nn, nf, nu, wd, nt, tg, tl, nr⟩ := f
  simp only at KO KW
  go_enter Try.func69, Try.ntmps69
  go_upto_region 1 with fail
  generalize (w.alloc (.cells #[.slice x.p1.a x.p1.n x.p1.c, .slice x.p2.a x.p2.n x.p2.c, .slice x.p3.a x.p3.n x.p3.c, .slice x.p4.a x.p4.n x.p4.c] 29)) = W1 at *
  obtain ⟨b, hb⟩ : ∃ b, b = w.heap.size := ⟨_, rfl⟩
  rw [← hb] at HS ⊢
  have Hb : Hid (b = w.heap.size) := hb
  clear hb
  have c0 : W1.cell? ⟨b, 0, none⟩ = some (.slice x.p1.a x.p1.n x.p1.c) := HS.out.1.box.1
  have c1 : W1.cell? ⟨b, 1, none⟩ = some (.slice x.p2.a x.p2.n x.p2.c) := HS.out.1.box.2.1
  have c2 : W1.cell? ⟨b, 2, none⟩ = some (.slice x.p3.a x.p3.n x.p3.c) := HS.out.1.box.2.2.1
  have c3 : W1.cell? ⟨b, 3, none⟩ = some (.slice x.p4.a x.p4.n x.p4.c) := HS.out.1.box.2.2.2.1
  have hbl := HS.out.1.lt
  go_region_held3 (fun W => W.cell? ⟨b, 0, none⟩ = some (.slice x.p1.a x.p1.n x.p1.c) ∧ W.cell? ⟨b, 1, none⟩ = some (.slice x.p2.a x.p2.n x.p2.c) ∧ W.cell? ⟨b, 2, none⟩ = some (.slice x.p3.a x.p3.n x.p3.c) ∧ W.cell? ⟨b, 3, none⟩ = some (.slice x.p4.a x.p4.n x.p4.c)) (exact ⟨by go_keep, by go_keep, by go_keep, by go_keep⟩) (first
    | (go_at_call 35; refine (KO.out _).mono ?_; rintro e W2 ⟨rfl, H2⟩; have HS2 : Hid (DBlk W2 b x ∧ DRd W2 x d ∧ Below b w W2) := ⟨(show DBlk W1.drew b x from HS.out.1).same (H2.out.block b hbl), (HS.out.2.1.below (Below.refl _ _).drew).below H2.out, (HS.out.2.2.trans ((Below.refl _ _).drew.mono (Nat.le_of_lt hbl))).trans (H2.out.mono (Nat.le_of_lt hbl))⟩; have e0 : W2.cell? ⟨b, 0, none⟩ = some (.slice x.p1.a x.p1.n x.p1.c) := HS2.out.1.box.1; have e1 : W2.cell? ⟨b, 1, none⟩ = some (.slice x.p2.a x.p2.n x.p2.c) := HS2.out.1.box.2.1; have e2 : W2.cell? ⟨b, 2, none⟩ = some (.slice x.p3.a x.p3.n x.p3.c) := HS2.out.1.box.2.2.1; have e3 : W2.cell? ⟨b, 3, none⟩ = some (.slice x.p4.a x.p4.n x.p4.c) := HS2.out.1.box.2.2.2.1; have ebl := HS2.out.1.lt)
    | (go_at_call 15; refine (KF.out _ HS2.out.2.1).mono ?_; rintro e W3 ⟨y, rfl, H3⟩; have HS3 : Hid (DBlk W3 b x ∧ DRd W3 y FD ∧ Below b w W3) := ⟨HS2.out.1.same (H3.out.2.block b ebl), H3.out.1.rd, HS2.out.2.2.trans (H3.out.2.mono (Nat.le_of_lt ebl))⟩; have f0 : W3.cell? ⟨b, 0, none⟩ = some (.slice x.p1.a x.p1.n x.p1.c) := HS3.out.1.box.1; have f1 : W3.cell? ⟨b, 1, none⟩ = some (.slice x.p2.a x.p2.n x.p2.c) := HS3.out.1.box.2.1; have f2 : W3.cell? ⟨b, 2, none⟩ = some (.slice x.p3.a x.p3.n x.p3.c) := HS3.out.1.box.2.2.1; have f3 : W3.cell? ⟨b, 3, none⟩ = some (.slice x.p4.a x.p4.n x.p4.c) := HS3.out.1.box.2.2.2.1; have fbl := HS3.out.1.lt)
    | (go_at_call 36; refine (KW.out _ y HS3.out.2.1).mono ?_; rintro e W4 ⟨s, rfl, H4⟩; have HS4 : Hid (DBlk W4 b x ∧ Below b w W4) := ⟨HS3.out.1.same (H4.out.2.2.2.2.2.block b fbl), HS3.out.2.2.trans (H4.out.2.2.2.2.2.mono (Nat.le_of_lt fbl))⟩; have g0 : W4.cell? ⟨b, 0, none⟩ = some (.slice x.p1.a x.p1.n x.p1.c) := HS4.out.1.box.1; have g1 : W4.cell? ⟨b, 1, none⟩ = some (.slice x.p2.a x.p2.n x.p2.c) := HS4.out.1.box.2.1; have g2 : W4.cell? ⟨b, 2, none⟩ = some (.slice x.p3.a x.p3.n x.p3.c) := HS4.out.1.box.2.2.1; have g3 : W4.cell? ⟨b, 3, none⟩ = some (.slice x.p4.a x.p4.n x.p4.c) := HS4.out.1.box.2.2.2.1))
  all_goals
    go_wp2_with fail
    go_ret
    obtain ⟨g1, g2, g3, g4, g5, g6⟩ := H4.out
    exact ⟨s, rfl, g1, g2, g3, g4, g5, by have := HS4.out.2; rw [Hb.out] at this; exact this⟩
end Go.Proofs.Ytdeoembjfdbbkaa
/- The program's order of data: Same, Compare. -/
namespace Go.Proofs.Ytdeoembjfdbbkaa
open Go.ChangeShapes Go.WideShapes Go.ChangeAt Go.RowKit
set_option linter.unusedVariables false
set_option linter.unusedSimpArgs false

/-- Two data in boxes. -/
structure CS (w W : World) (b : Nat) (x y : DA) (d e : Dat) : Prop where
  bx : DBlk W b x
  bz : DBlk W (b + 1) y
  rx : DRd W x d
  ry : DRd W y e
  bel : Below w.heap.size w W
theorem CS.go {w W W' : World} {b : Nat} {x y : DA} {d e : Dat} (h : CS w W b x y d e) (hb : Below W.heap.size W W') : CS w W' b x y d e :=
  ⟨h.bx.same (hb.block _ h.bx.lt), h.bz.same (hb.block _ h.bz.lt), h.rx.below hb, h.ry.below hb, h.bel.trans (hb.mono h.bel.size)⟩
theorem CS.new (w : World) (x y : DA) (d e : Dat) (hx : DRd w x d) (hy : DRd w y e) : CS w ((w.alloc (.cells #[.slice x.p1.a x.p1.n x.p1.c, .slice x.p2.a x.p2.n x.p2.c, .slice x.p3.a x.p3.n x.p3.c, .slice x.p4.a x.p4.n x.p4.c] 29)).alloc (.cells #[.slice y.p1.a y.p1.n y.p1.c, .slice y.p2.a y.p2.n y.p2.c, .slice y.p3.a y.p3.n y.p3.c, .slice y.p4.a y.p4.n y.p4.c] 29)) w.heap.size x y d e := by
  have h1 : DBlk (w.alloc (.cells #[.slice x.p1.a x.p1.n x.p1.c, .slice x.p2.a x.p2.n x.p2.c, .slice x.p3.a x.p3.n x.p3.c, .slice x.p4.a x.p4.n x.p4.c] 29)) w.heap.size x := heap_alloc_new _ _
  have h2 : DBlk ((w.alloc (.cells #[.slice x.p1.a x.p1.n x.p1.c, .slice x.p2.a x.p2.n x.p2.c, .slice x.p3.a x.p3.n x.p3.c, .slice x.p4.a x.p4.n x.p4.c] 29)).alloc (.cells #[.slice y.p1.a y.p1.n y.p1.c, .slice y.p2.a y.p2.n y.p2.c, .slice y.p3.a y.p3.n y.p3.c, .slice y.p4.a y.p4.n y.p4.c] 29)) (w.alloc (.cells #[.slice x.p1.a x.p1.n x.p1.c, .slice x.p2.a x.p2.n x.p2.c, .slice x.p3.a x.p3.n x.p3.c, .slice x.p4.a x.p4.n x.p4.c] 29)).heap.size y := heap_alloc_new _ _
  have hz : (w.alloc (.cells #[.slice x.p1.a x.p1.n x.p1.c, .slice x.p2.a x.p2.n x.p2.c, .slice x.p3.a x.p3.n x.p3.c, .slice x.p4.a x.p4.n x.p4.c] 29)).heap.size = w.heap.size + 1 := by simp
  rw [hz] at h2
  have b1 := new_below w (.cells #[.slice x.p1.a x.p1.n x.p1.c, .slice x.p2.a x.p2.n x.p2.c, .slice x.p3.a x.p3.n x.p3.c, .slice x.p4.a x.p4.n x.p4.c] 29)
  have b2 := new_below (w.alloc (.cells #[.slice x.p1.a x.p1.n x.p1.c, .slice x.p2.a x.p2.n x.p2.c, .slice x.p3.a x.p3.n x.p3.c, .slice x.p4.a x.p4.n x.p4.c] 29)) (.cells #[.slice y.p1.a y.p1.n y.p1.c, .slice y.p2.a y.p2.n y.p2.c, .slice y.p3.a y.p3.n y.p3.c, .slice y.p4.a y.p4.n y.p4.c] 29)
  exact ⟨h1.same (b2.block _ h1.lt), h2, (hx.below b1).below b2, (hy.below b1).below b2, b1.trans (b2.mono b1.size)⟩
set_option maxRecDepth 100000 in
set_option maxHeartbeats 4000000 in
theorem cmp5_any (t : Nat) (x y : DA) (d e : Dat) (w : World) (hx : DRd w x d) (hy : DRd w y e) (hB : Bd d) (hE : Bd e) :
    Calls Try.prog 50 #[.int .u16 t, .agg #[.slice x.p1.a x.p1.n x.p1.c, .slice x.p2.a x.p2.n x.p2.c, .slice x.p3.a x.p3.n x.p3.c, .slice x.p4.a x.p4.n x.p4.c], .agg #[.slice y.p1.a y.p1.n y.p1.c, .slice y.p2.a y.p2.n y.p2.c, .slice y.p3.a y.p3.n y.p3.c, .slice y.p4.a y.p4.n y.p4.c]] w fun r w' => r = .returned (.tuple #[.int .i64 (compareF t d e), .bool (decide (checkF t d = 0) && decide (checkF t e = 0))]) ∧ Hid (Below w.heap.size w w') := by
  have HS1 : Hid (CS w ((w.alloc (.cells #[.slice x.p1.a x.p1.n x.p1.c, .slice x.p2.a x.p2.n x.p2.c, .slice x.p3.a x.p3.n x.p3.c, .slice x.p4.a x.p4.n x.p4.c] 29)).alloc (.cells #[.slice y.p1.a y.p1.n y.p1.c, .slice y.p2.a y.p2.n y.p2.c, .slice y.p3.a y.p3.n y.p3.c, .slice y.p4.a y.p4.n y.p4.c] 29)) w.heap.size x y d e) := CS.new w x y d e hx hy
  have KX : Hid (∀ W, DRd W x d → Calls Try.prog 13 #[.int .u16 t, .agg #[.slice x.p1.a x.p1.n x.p1.c, .slice x.p2.a x.p2.n x.p2.c, .slice x.p3.a x.p3.n x.p3.c, .slice x.p4.a x.p4.n x.p4.c]] W fun r w' => r = .returned (.int .i64 (checkF t d)) ∧ Hid (Below W.heap.size W w')) := fun W hW => check_any t x d W hW hB
  have KY : Hid (∀ W, DRd W y e → Calls Try.prog 13 #[.int .u16 t, .agg #[.slice y.p1.a y.p1.n y.p1.c, .slice y.p2.a y.p2.n y.p2.c, .slice y.p3.a y.p3.n y.p3.c, .slice y.p4.a y.p4.n y.p4.c]] W fun r w' => r = .returned (.int .i64 (checkF t e)) ∧ Hid (Below W.heap.size W w')) := fun W hW => check_any t y e W hW hE
  have FX : Hid (checkF t d = 0 → ∀ W, DRd W x d → Calls Try.prog 69 #[.int .u16 t, .agg #[.slice x.p1.a x.p1.n x.p1.c, .slice x.p2.a x.p2.n x.p2.c, .slice x.p3.a x.p3.n x.p3.c, .slice x.p4.a x.p4.n x.p4.c]] W (WPost (writeF t (foldD t d)) W)) := fun hc W hW => folded_any t x d W hW hc hB
  have FY : Hid (checkF t e = 0 → ∀ W, DRd W y e → Calls Try.prog 69 #[.int .u16 t, .agg #[.slice y.p1.a y.p1.n y.p1.c, .slice y.p2.a y.p2.n y.p2.c, .slice y.p3.a y.p3.n y.p3.c, .slice y.p4.a y.p4.n y.p4.c]] W (WPost (writeF t (foldD t e)) W)) := fun hc W hW => folded_any t y e W hW hc hE
  have HCF : Hid (compareF t d e = if checkF t d = 0 ∧ checkF t e = 0 then cmpL (writeF t (foldD t d)) (writeF t (foldD t e)) else 0) := (show _ = _ from rfl)
  clear hx hy hB hE
  generalize compareF t d e = CF at *
  generalize checkF t d = C1 at *
  generalize checkF t e = C2 at *
  generalize writeF t (foldD t d) = R1 at *
  generalize writeF t (foldD t e) = R2 at *
  go_enter Try.func50, Try.ntmps50
  go_upto_region 1 with fail
  generalize ((w.alloc (.cells #[.slice x.p1.a x.p1.n x.p1.c, .slice x.p2.a x.p2.n x.p2.c, .slice x.p3.a x.p3.n x.p3.c, .slice x.p4.a x.p4.n x.p4.c] 29)).alloc (.cells #[.slice y.p1.a y.p1.n y.p1.c, .slice y.p2.a y.p2.n y.p2.c, .slice y.p3.a y.p3.n y.p3.c, .slice y.p4.a y.p4.n y.p4.c] 29)) = W1 at *
  obtain ⟨b, hb⟩ : ∃ b, b = w.heap.size := ⟨_, rfl⟩
  rw [← hb] at HS1 ⊢
  have Hb : Hid (b = w.heap.size) := hb
  clear hb
  have c0 : W1.cell? ⟨b, 0, none⟩ = some (.slice x.p1.a x.p1.n x.p1.c) := HS1.out.bx.box.1
  have c1 : W1.cell? ⟨b, 1, none⟩ = some (.slice x.p2.a x.p2.n x.p2.c) := HS1.out.bx.box.2.1
  have c2 : W1.cell? ⟨b, 2, none⟩ = some (.slice x.p3.a x.p3.n x.p3.c) := HS1.out.bx.box.2.2.1
  have c3 : W1.cell? ⟨b, 3, none⟩ = some (.slice x.p4.a x.p4.n x.p4.c) := HS1.out.bx.box.2.2.2.1
  have k0 : W1.cell? ⟨b + 1, 0, none⟩ = some (.slice y.p1.a y.p1.n y.p1.c) := HS1.out.bz.box.1
  have k1 : W1.cell? ⟨b + 1, 1, none⟩ = some (.slice y.p2.a y.p2.n y.p2.c) := HS1.out.bz.box.2.1
  have k2 : W1.cell? ⟨b + 1, 2, none⟩ = some (.slice y.p3.a y.p3.n y.p3.c) := HS1.out.bz.box.2.2.1
  have k3 : W1.cell? ⟨b + 1, 3, none⟩ = some (.slice y.p4.a y.p4.n y.p4.c) := HS1.out.bz.box.2.2.2.1
  have hbl := HS1.out.bx.lt
  have hbl2 := HS1.out.bz.lt
  go_wp2_with fail
  refine (KX.out _ HS1.out.rx).mono ?_
  rintro r W2 ⟨rfl, H2⟩
  have HS2 : Hid (CS w W2 b x y d e) := HS1.out.go H2.out
  clear HS1 H2 KX c0 c1 c2 c3 k0 k1 k2 k3 hbl hbl2
  by_cases h1 : C1 = 0
  · have h1b : (C1 != 0) = false := by simp [h1]
    have c0 : W2.cell? ⟨b, 0, none⟩ = some (.slice x.p1.a x.p1.n x.p1.c) := HS2.out.bx.box.1
    have c1 : W2.cell? ⟨b, 1, none⟩ = some (.slice x.p2.a x.p2.n x.p2.c) := HS2.out.bx.box.2.1
    have c2 : W2.cell? ⟨b, 2, none⟩ = some (.slice x.p3.a x.p3.n x.p3.c) := HS2.out.bx.box.2.2.1
    have c3 : W2.cell? ⟨b, 3, none⟩ = some (.slice x.p4.a x.p4.n x.p4.c) := HS2.out.bx.box.2.2.2.1
    have k0 : W2.cell? ⟨b + 1, 0, none⟩ = some (.slice y.p1.a y.p1.n y.p1.c) := HS2.out.bz.box.1
    have k1 : W2.cell? ⟨b + 1, 1, none⟩ = some (.slice y.p2.a y.p2.n y.p2.c) := HS2.out.bz.box.2.1
    have k2 : W2.cell? ⟨b + 1, 2, none⟩ = some (.slice y.p3.a y.p3.n y.p3.c) := HS2.out.bz.box.2.2.1
    have k3 : W2.cell? ⟨b + 1, 3, none⟩ = some (.slice y.p4.a y.p4.n y.p4.c) := HS2.out.bz.box.2.2.2.1
    have hbl := HS2.out.bx.lt
    have hbl2 := HS2.out.bz.lt
    have H1 : Hid (C1 = 0) := h1
    clear h1
    go_wp2_with fail
    refine (KY.out _ HS2.out.ry).mono ?_
    rintro r W3 ⟨rfl, H3⟩
    have HS3 : Hid (CS w W3 b x y d e) := HS2.out.go H3.out
    clear HS2 H3 KY c0 c1 c2 c3 k0 k1 k2 k3 hbl hbl2
    by_cases h2 : C2 = 0
    · have h2b : (C2 != 0) = false := by simp [h2]
      have HCV : Hid (CF = cmpL R1 R2) := by have := HCF.out; rw [if_pos ⟨H1.out, h2⟩] at this; exact this
      have FXh : Hid (∀ W, DRd W x d → Calls Try.prog 69 #[.int .u16 t, .agg #[.slice x.p1.a x.p1.n x.p1.c, .slice x.p2.a x.p2.n x.p2.c, .slice x.p3.a x.p3.n x.p3.c, .slice x.p4.a x.p4.n x.p4.c]] W (WPost R1 W)) := FX.out H1.out
      have FYh : Hid (∀ W, DRd W y e → Calls Try.prog 69 #[.int .u16 t, .agg #[.slice y.p1.a y.p1.n y.p1.c, .slice y.p2.a y.p2.n y.p2.c, .slice y.p3.a y.p3.n y.p3.c, .slice y.p4.a y.p4.n y.p4.c]] W (WPost R2 W)) := FY.out h2
      have H2' : Hid (C2 = 0) := h2
      clear h2 FX FY HCF
      have c0 : W3.cell? ⟨b, 0, none⟩ = some (.slice x.p1.a x.p1.n x.p1.c) := HS3.out.bx.box.1
      have c1 : W3.cell? ⟨b, 1, none⟩ = some (.slice x.p2.a x.p2.n x.p2.c) := HS3.out.bx.box.2.1
      have c2 : W3.cell? ⟨b, 2, none⟩ = some (.slice x.p3.a x.p3.n x.p3.c) := HS3.out.bx.box.2.2.1
      have c3 : W3.cell? ⟨b, 3, none⟩ = some (.slice x.p4.a x.p4.n x.p4.c) := HS3.out.bx.box.2.2.2.1
      have k0 : W3.cell? ⟨b + 1, 0, none⟩ = some (.slice y.p1.a y.p1.n y.p1.c) := HS3.out.bz.box.1
      have k1 : W3.cell? ⟨b + 1, 1, none⟩ = some (.slice y.p2.a y.p2.n y.p2.c) := HS3.out.bz.box.2.1
      have k2 : W3.cell? ⟨b + 1, 2, none⟩ = some (.slice y.p3.a y.p3.n y.p3.c) := HS3.out.bz.box.2.2.1
      have k3 : W3.cell? ⟨b + 1, 3, none⟩ = some (.slice y.p4.a y.p4.n y.p4.c) := HS3.out.bz.box.2.2.2.1
      have hbl := HS3.out.bx.lt
      have hbl2 := HS3.out.bz.lt
      go_wp2_with fail
      go_region_held3 (fun W => W.cell? ⟨b, 0, none⟩ = some (.slice x.p1.a x.p1.n x.p1.c) ∧ W.cell? ⟨b, 1, none⟩ = some (.slice x.p2.a x.p2.n x.p2.c) ∧ W.cell? ⟨b, 2, none⟩ = some (.slice x.p3.a x.p3.n x.p3.c) ∧ W.cell? ⟨b, 3, none⟩ = some (.slice x.p4.a x.p4.n x.p4.c) ∧ W.cell? ⟨b + 1, 0, none⟩ = some (.slice y.p1.a y.p1.n y.p1.c) ∧ W.cell? ⟨b + 1, 1, none⟩ = some (.slice y.p2.a y.p2.n y.p2.c) ∧ W.cell? ⟨b + 1, 2, none⟩ = some (.slice y.p3.a y.p3.n y.p3.c) ∧ W.cell? ⟨b + 1, 3, none⟩ = some (.slice y.p4.a y.p4.n y.p4.c)) (exact ⟨by go_keep, by go_keep, by go_keep, by go_keep, by go_keep, by go_keep, by go_keep, by go_keep⟩) (first
        | (go_at_call 68; refine (bcmp_any s4.a s5.a s4.n s4.c s5.n s5.c R1 R2 W5 HS5.out.2.1 HS5.out.2.2.2.1 HS5.out.2.2.1 HS5.out.2.2.2.2).mono ?_; rintro r W6 ⟨rfl, hW6⟩; subst hW6)
        | (go_at_call 69; refine (FYh.out _ HS4.out.ry).mono ?_; rintro r W5 ⟨s5, rfl, H5⟩; have HS5 : Hid (CS w W5 b x y d e ∧ Rd W5 s4.a R1 ∧ Rd W5 s5.a R2 ∧ R1.length = s4.n ∧ R2.length = s5.n) := ⟨HS4.out.go H5.out.2.2.2.2.2, H4.out.2.1.below H5.out.2.2.2.2.2, H5.out.2.1, H4.out.1.symm, H5.out.1.symm⟩; have g0 : W5.cell? ⟨b, 0, none⟩ = some (.slice x.p1.a x.p1.n x.p1.c) := HS5.out.1.bx.box.1; have g1 : W5.cell? ⟨b, 1, none⟩ = some (.slice x.p2.a x.p2.n x.p2.c) := HS5.out.1.bx.box.2.1; have g2 : W5.cell? ⟨b, 2, none⟩ = some (.slice x.p3.a x.p3.n x.p3.c) := HS5.out.1.bx.box.2.2.1; have g3 : W5.cell? ⟨b, 3, none⟩ = some (.slice x.p4.a x.p4.n x.p4.c) := HS5.out.1.bx.box.2.2.2.1; have h0 : W5.cell? ⟨b + 1, 0, none⟩ = some (.slice y.p1.a y.p1.n y.p1.c) := HS5.out.1.bz.box.1; have h1 : W5.cell? ⟨b + 1, 1, none⟩ = some (.slice y.p2.a y.p2.n y.p2.c) := HS5.out.1.bz.box.2.1; have h2 : W5.cell? ⟨b + 1, 2, none⟩ = some (.slice y.p3.a y.p3.n y.p3.c) := HS5.out.1.bz.box.2.2.1; have h3 : W5.cell? ⟨b + 1, 3, none⟩ = some (.slice y.p4.a y.p4.n y.p4.c) := HS5.out.1.bz.box.2.2.2.1; have gbl := HS5.out.1.bx.lt; have gbl2 := HS5.out.1.bz.lt)
        | (go_at_call 69; refine (FXh.out _ (HS3.out.go (Below.refl _ _).drew).rx).mono ?_; rintro r W4 ⟨s4, rfl, H4⟩; have HS4 : Hid (CS w W4 b x y d e) := (HS3.out.go (Below.refl _ _).drew).go H4.out.2.2.2.2.2; have e0 : W4.cell? ⟨b, 0, none⟩ = some (.slice x.p1.a x.p1.n x.p1.c) := HS4.out.bx.box.1; have e1 : W4.cell? ⟨b, 1, none⟩ = some (.slice x.p2.a x.p2.n x.p2.c) := HS4.out.bx.box.2.1; have e2 : W4.cell? ⟨b, 2, none⟩ = some (.slice x.p3.a x.p3.n x.p3.c) := HS4.out.bx.box.2.2.1; have e3 : W4.cell? ⟨b, 3, none⟩ = some (.slice x.p4.a x.p4.n x.p4.c) := HS4.out.bx.box.2.2.2.1; have f0 : W4.cell? ⟨b + 1, 0, none⟩ = some (.slice y.p1.a y.p1.n y.p1.c) := HS4.out.bz.box.1; have f1 : W4.cell? ⟨b + 1, 1, none⟩ = some (.slice y.p2.a y.p2.n y.p2.c) := HS4.out.bz.box.2.1; have f2 : W4.cell? ⟨b + 1, 2, none⟩ = some (.slice y.p3.a y.p3.n y.p3.c) := HS4.out.bz.box.2.2.1; have f3 : W4.cell? ⟨b + 1, 3, none⟩ = some (.slice y.p4.a y.p4.n y.p4.c) := HS4.out.bz.box.2.2.2.1; have ebl := HS4.out.bx.lt; have ebl2 := HS4.out.bz.lt))
      all_goals
        go_wp2_with fail
        go_ret2
        exact ⟨by rw [HCV.out, H1.out, H2'.out]; rfl, HS5.out.1.bel⟩
    · have h2b : (C2 != 0) = true := by simp [h2]
      have HCV : Hid (CF = 0 ∧ decide (C2 = 0) = false) := ⟨by have := HCF.out; rw [if_neg (fun h => h2 h.2)] at this; exact this, by simp [h2]⟩
      clear h2 FX FY HCF
      go_wp2_with fail
      go_ret2
      exact ⟨by rw [HCV.out.1, HCV.out.2]; simp, HS3.out.bel⟩
  · have h1b : (C1 != 0) = true := by simp [h1]
    have HCV : Hid (CF = 0 ∧ decide (C1 = 0) = false) := ⟨by have := HCF.out; rw [if_neg (fun h => h1 h.1)] at this; exact this, by simp [h1]⟩
    clear h1 FX FY HCF KY
    go_wp2_with fail
    go_ret2
    exact ⟨by rw [HCV.out.1, HCV.out.2]; simp, HS2.out.bel⟩
set_option maxRecDepth 100000 in
set_option maxHeartbeats 4000000 in
theorem compare5_any (t : Nat) (x y : DA) (d e : Dat) (w : World) (hx : DRd w x d) (hy : DRd w y e) (hB : Bd d) (hE : Bd e) :
    Calls Try.prog 23 #[.int .u16 t, .agg #[.slice x.p1.a x.p1.n x.p1.c, .slice x.p2.a x.p2.n x.p2.c, .slice x.p3.a x.p3.n x.p3.c, .slice x.p4.a x.p4.n x.p4.c], .agg #[.slice y.p1.a y.p1.n y.p1.c, .slice y.p2.a y.p2.n y.p2.c, .slice y.p3.a y.p3.n y.p3.c, .slice y.p4.a y.p4.n y.p4.c]] w fun r w' => r = .returned (.int .i64 (compareF t d e)) ∧ Hid (Below w.heap.size w w') := by
  have HS1 : Hid (CS w ((w.alloc (.cells #[.slice x.p1.a x.p1.n x.p1.c, .slice x.p2.a x.p2.n x.p2.c, .slice x.p3.a x.p3.n x.p3.c, .slice x.p4.a x.p4.n x.p4.c] 29)).alloc (.cells #[.slice y.p1.a y.p1.n y.p1.c, .slice y.p2.a y.p2.n y.p2.c, .slice y.p3.a y.p3.n y.p3.c, .slice y.p4.a y.p4.n y.p4.c] 29)) w.heap.size x y d e) := CS.new w x y d e hx hy
  have KC : Hid (∀ W, DRd W x d → DRd W y e → Calls Try.prog 50 #[.int .u16 t, .agg #[.slice x.p1.a x.p1.n x.p1.c, .slice x.p2.a x.p2.n x.p2.c, .slice x.p3.a x.p3.n x.p3.c, .slice x.p4.a x.p4.n x.p4.c], .agg #[.slice y.p1.a y.p1.n y.p1.c, .slice y.p2.a y.p2.n y.p2.c, .slice y.p3.a y.p3.n y.p3.c, .slice y.p4.a y.p4.n y.p4.c]] W fun r w' => r = .returned (.tuple #[.int .i64 (compareF t d e), .bool (decide (checkF t d = 0) && decide (checkF t e = 0))]) ∧ Hid (Below W.heap.size W w')) := fun W h1 h2 => cmp5_any t x y d e W h1 h2 hB hE
  clear hx hy hB hE
  generalize compareF t d e = CF at *
  generalize (decide (checkF t d = 0) && decide (checkF t e = 0)) = BB at *
  go_enter Try.func23, Try.ntmps23
  go_upto_region 1 with fail
  generalize ((w.alloc (.cells #[.slice x.p1.a x.p1.n x.p1.c, .slice x.p2.a x.p2.n x.p2.c, .slice x.p3.a x.p3.n x.p3.c, .slice x.p4.a x.p4.n x.p4.c] 29)).alloc (.cells #[.slice y.p1.a y.p1.n y.p1.c, .slice y.p2.a y.p2.n y.p2.c, .slice y.p3.a y.p3.n y.p3.c, .slice y.p4.a y.p4.n y.p4.c] 29)) = W1 at *
  obtain ⟨b, hb⟩ : ∃ b, b = w.heap.size := ⟨_, rfl⟩
  rw [← hb] at HS1 ⊢
  have Hb : Hid (b = w.heap.size) := hb
  clear hb
  have c0 : W1.cell? ⟨b, 0, none⟩ = some (.slice x.p1.a x.p1.n x.p1.c) := HS1.out.bx.box.1
  have c1 : W1.cell? ⟨b, 1, none⟩ = some (.slice x.p2.a x.p2.n x.p2.c) := HS1.out.bx.box.2.1
  have c2 : W1.cell? ⟨b, 2, none⟩ = some (.slice x.p3.a x.p3.n x.p3.c) := HS1.out.bx.box.2.2.1
  have c3 : W1.cell? ⟨b, 3, none⟩ = some (.slice x.p4.a x.p4.n x.p4.c) := HS1.out.bx.box.2.2.2.1
  have k0 : W1.cell? ⟨b + 1, 0, none⟩ = some (.slice y.p1.a y.p1.n y.p1.c) := HS1.out.bz.box.1
  have k1 : W1.cell? ⟨b + 1, 1, none⟩ = some (.slice y.p2.a y.p2.n y.p2.c) := HS1.out.bz.box.2.1
  have k2 : W1.cell? ⟨b + 1, 2, none⟩ = some (.slice y.p3.a y.p3.n y.p3.c) := HS1.out.bz.box.2.2.1
  have k3 : W1.cell? ⟨b + 1, 3, none⟩ = some (.slice y.p4.a y.p4.n y.p4.c) := HS1.out.bz.box.2.2.2.1
  have hbl := HS1.out.bx.lt
  have hbl2 := HS1.out.bz.lt
  go_wp2_with fail
  refine (KC.out _ HS1.out.rx HS1.out.ry).mono ?_
  rintro r W2 ⟨rfl, H2⟩
  have HB2 : Hid (Below w.heap.size w W2) := (HS1.out.go H2.out).bel
  clear HS1 H2 KC c0 c1 c2 c3 k0 k1 k2 k3
  go_wp2_with fail
  go_ret
  exact ⟨rfl, HB2⟩
set_option maxRecDepth 100000 in
set_option maxHeartbeats 4000000 in
theorem same5_any (t : Nat) (x y : DA) (d e : Dat) (w : World) (hx : DRd w x d) (hy : DRd w y e) (hB : Bd d) (hE : Bd e) :
    Calls Try.prog 21 #[.int .u16 t, .agg #[.slice x.p1.a x.p1.n x.p1.c, .slice x.p2.a x.p2.n x.p2.c, .slice x.p3.a x.p3.n x.p3.c, .slice x.p4.a x.p4.n x.p4.c], .agg #[.slice y.p1.a y.p1.n y.p1.c, .slice y.p2.a y.p2.n y.p2.c, .slice y.p3.a y.p3.n y.p3.c, .slice y.p4.a y.p4.n y.p4.c]] w fun r w' => r = .returned (.bool (sameF t d e)) ∧ Hid (Below w.heap.size w w') := by
  have HS1 : Hid (CS w ((w.alloc (.cells #[.slice x.p1.a x.p1.n x.p1.c, .slice x.p2.a x.p2.n x.p2.c, .slice x.p3.a x.p3.n x.p3.c, .slice x.p4.a x.p4.n x.p4.c] 29)).alloc (.cells #[.slice y.p1.a y.p1.n y.p1.c, .slice y.p2.a y.p2.n y.p2.c, .slice y.p3.a y.p3.n y.p3.c, .slice y.p4.a y.p4.n y.p4.c] 29)) w.heap.size x y d e) := CS.new w x y d e hx hy
  have KC : Hid (∀ W, DRd W x d → DRd W y e → Calls Try.prog 50 #[.int .u16 t, .agg #[.slice x.p1.a x.p1.n x.p1.c, .slice x.p2.a x.p2.n x.p2.c, .slice x.p3.a x.p3.n x.p3.c, .slice x.p4.a x.p4.n x.p4.c], .agg #[.slice y.p1.a y.p1.n y.p1.c, .slice y.p2.a y.p2.n y.p2.c, .slice y.p3.a y.p3.n y.p3.c, .slice y.p4.a y.p4.n y.p4.c]] W fun r w' => r = .returned (.tuple #[.int .i64 (compareF t d e), .bool (decide (checkF t d = 0) && decide (checkF t e = 0))]) ∧ Hid (Below W.heap.size W w')) := fun W h1 h2 => cmp5_any t x y d e W h1 h2 hB hE
  have HSF : Hid (sameF t d e = ((decide (checkF t d = 0) && decide (checkF t e = 0)) && decide (compareF t d e = 0))) := (show _ = _ from rfl)
  clear hx hy hB hE
  generalize sameF t d e = SF at *
  generalize compareF t d e = CF at *
  generalize (decide (checkF t d = 0) && decide (checkF t e = 0)) = BB at *
  go_enter Try.func21, Try.ntmps21
  go_upto_region 1 with fail
  generalize ((w.alloc (.cells #[.slice x.p1.a x.p1.n x.p1.c, .slice x.p2.a x.p2.n x.p2.c, .slice x.p3.a x.p3.n x.p3.c, .slice x.p4.a x.p4.n x.p4.c] 29)).alloc (.cells #[.slice y.p1.a y.p1.n y.p1.c, .slice y.p2.a y.p2.n y.p2.c, .slice y.p3.a y.p3.n y.p3.c, .slice y.p4.a y.p4.n y.p4.c] 29)) = W1 at *
  obtain ⟨b, hb⟩ : ∃ b, b = w.heap.size := ⟨_, rfl⟩
  rw [← hb] at HS1 ⊢
  have Hb : Hid (b = w.heap.size) := hb
  clear hb
  have c0 : W1.cell? ⟨b, 0, none⟩ = some (.slice x.p1.a x.p1.n x.p1.c) := HS1.out.bx.box.1
  have c1 : W1.cell? ⟨b, 1, none⟩ = some (.slice x.p2.a x.p2.n x.p2.c) := HS1.out.bx.box.2.1
  have c2 : W1.cell? ⟨b, 2, none⟩ = some (.slice x.p3.a x.p3.n x.p3.c) := HS1.out.bx.box.2.2.1
  have c3 : W1.cell? ⟨b, 3, none⟩ = some (.slice x.p4.a x.p4.n x.p4.c) := HS1.out.bx.box.2.2.2.1
  have k0 : W1.cell? ⟨b + 1, 0, none⟩ = some (.slice y.p1.a y.p1.n y.p1.c) := HS1.out.bz.box.1
  have k1 : W1.cell? ⟨b + 1, 1, none⟩ = some (.slice y.p2.a y.p2.n y.p2.c) := HS1.out.bz.box.2.1
  have k2 : W1.cell? ⟨b + 1, 2, none⟩ = some (.slice y.p3.a y.p3.n y.p3.c) := HS1.out.bz.box.2.2.1
  have k3 : W1.cell? ⟨b + 1, 3, none⟩ = some (.slice y.p4.a y.p4.n y.p4.c) := HS1.out.bz.box.2.2.2.1
  have hbl := HS1.out.bx.lt
  have hbl2 := HS1.out.bz.lt
  go_wp2_with fail
  refine (KC.out _ HS1.out.rx HS1.out.ry).mono ?_
  rintro r W2 ⟨rfl, H2⟩
  have HB2 : Hid (Below w.heap.size w W2) := (HS1.out.go H2.out).bel
  clear HS1 H2 KC c0 c1 c2 c3 k0 k1 k2 k3
  cases BB with
  | false =>
    go_wp2_with fail
    go_ret
    exact ⟨by rw [HSF.out]; rfl, HB2⟩
  | true =>
    by_cases hz : CF = 0
    · subst hz
      go_wp2_with fail
      go_ret
      exact ⟨by rw [HSF.out]; rfl, HB2⟩
    · have hz' : (CF == 0) = false := by simp [hz]
      have HZ : Hid (decide (CF = 0) = false) := (show decide (CF = 0) = false from by simp [hz])
      clear hz
      go_wp2_with fail
      go_ret
      exact ⟨by rw [HSF.out, HZ.out]; rfl, HB2⟩
set_option maxRecDepth 100000 in
set_option maxHeartbeats 4000000 in
theorem sqz_yes (w : World) : Calls Try.prog 19 #[.int .u16 6] w fun r w' => r = .returned (.bool true) ∧ w' = w := by
  go_enter Try.func19, Try.ntmps19
  go_wp2
  go_ret
  exact ⟨rfl, rfl⟩
set_option maxRecDepth 100000 in
set_option maxHeartbeats 4000000 in
theorem sqz_no (w : World) : Calls Try.prog 19 #[.int .u16 33] w fun r w' => r = .returned (.bool false) ∧ w' = w := by
  go_enter Try.func19, Try.ntmps19
  go_wp2
  go_ret
  exact ⟨rfl, rfl⟩
end Go.Proofs.Ytdeoembjfdbbkaa
/- Data that are the same, to the letter. -/
namespace Go.Proofs.Ytdeoembjfdbbkaa
open Go.ChangeShapes Go.WideShapes Go.ChangeAt Go.RowKit
set_option linter.unusedVariables false
set_option linter.unusedSimpArgs false


/-- Where the walk stands: both lie in blocks of their own, and can be read. -/
def SdSt (w W : World) (b : Nat) (x y : DA) (d : Dat) : Prop := DBox W b x ∧ DBox W (b + 1) y ∧ DRd W x d ∧ DRd W y d ∧ Below w.heap.size w W
theorem SdSt.go {w W W' : World} {b : Nat} {x y : DA} {d : Dat} (h : SdSt w W b x y d) (hb : Below W.heap.size W W') : SdSt w W' b x y d :=
  ⟨h.1.below hb, h.2.1.below hb, h.2.2.1.below hb, h.2.2.2.1.below hb, h.2.2.2.2.trans (hb.mono h.2.2.2.2.size)⟩
set_option maxRecDepth 100000 in
set_option maxHeartbeats 2000000 in
theorem samedata_yes (x y : DA) (d : Dat) (w : World) (hx : DRd w x d) (hy : DRd w y d) :
    Calls Try.prog 17 #[.agg #[.slice x.p1.a x.p1.n x.p1.c, .slice x.p2.a x.p2.n x.p2.c, .slice x.p3.a x.p3.n x.p3.c, .slice x.p4.a x.p4.n x.p4.c], .agg #[.slice y.p1.a y.p1.n y.p1.c, .slice y.p2.a y.p2.n y.p2.c, .slice y.p3.a y.p3.n y.p3.c, .slice y.p4.a y.p4.n y.p4.c]] w fun e w' => e = .returned (.bool true) ∧ Hid (Below w.heap.size w w') := by
  have hb1 : Below w.heap.size w (w.alloc (.cells #[.slice x.p1.a x.p1.n x.p1.c, .slice x.p2.a x.p2.n x.p2.c, .slice x.p3.a x.p3.n x.p3.c, .slice x.p4.a x.p4.n x.p4.c] 29)) := (Below.refl _ _).alloc (Nat.le_refl _) _
  have HX := DBox.new w x
  have hx1 := hx.below hb1
  have hy1 := hy.below hb1
  have e1 : y.p1.n = x.p1.n := by rw [← hx.h1.len, ← hy.h1.len]
  have e2 : y.p2.n = x.p2.n := by rw [← hx.h2.len, ← hy.h2.len]
  have e3 : y.p3.n = x.p3.n := by rw [← hx.h3.len, ← hy.h3.len]
  have e4 : y.p4.n = x.p4.n := by rw [← hx.h4.len, ← hy.h4.len]
  obtain ⟨W0, hW0⟩ : ∃ W, W = w.alloc (.cells #[.slice x.p1.a x.p1.n x.p1.c, .slice x.p2.a x.p2.n x.p2.c, .slice x.p3.a x.p3.n x.p3.c, .slice x.p4.a x.p4.n x.p4.c] 29) := ⟨_, rfl⟩
  have hs0 : W0.heap.size = w.heap.size + 1 := by rw [hW0]; simp
  rw [← hW0] at hb1 HX hx1 hy1
  have hb2 : Below W0.heap.size W0 (W0.alloc (.cells #[.slice y.p1.a y.p1.n y.p1.c, .slice y.p2.a y.p2.n y.p2.c, .slice y.p3.a y.p3.n y.p3.c, .slice y.p4.a y.p4.n y.p4.c] 29)) := (Below.refl _ _).alloc (Nat.le_refl _) _
  have HY := DBox.new W0 y
  have H : Hid (∃ b c, b = w.heap.size ∧ c = w.heap.size + 1 ∧ DBox (W0.alloc (.cells #[.slice y.p1.a y.p1.n y.p1.c, .slice y.p2.a y.p2.n y.p2.c, .slice y.p3.a y.p3.n y.p3.c, .slice y.p4.a y.p4.n y.p4.c] 29)) b x ∧ DBox (W0.alloc (.cells #[.slice y.p1.a y.p1.n y.p1.c, .slice y.p2.a y.p2.n y.p2.c, .slice y.p3.a y.p3.n y.p3.c, .slice y.p4.a y.p4.n y.p4.c] 29)) c y ∧
      DRd (W0.alloc (.cells #[.slice y.p1.a y.p1.n y.p1.c, .slice y.p2.a y.p2.n y.p2.c, .slice y.p3.a y.p3.n y.p3.c, .slice y.p4.a y.p4.n y.p4.c] 29)) x d ∧ DRd (W0.alloc (.cells #[.slice y.p1.a y.p1.n y.p1.c, .slice y.p2.a y.p2.n y.p2.c, .slice y.p3.a y.p3.n y.p3.c, .slice y.p4.a y.p4.n y.p4.c] 29)) y d ∧ Below w.heap.size w (W0.alloc (.cells #[.slice y.p1.a y.p1.n y.p1.c, .slice y.p2.a y.p2.n y.p2.c, .slice y.p3.a y.p3.n y.p3.c, .slice y.p4.a y.p4.n y.p4.c] 29))) :=
    ⟨w.heap.size, w.heap.size + 1, rfl, rfl, HX.below hb2, by rw [← hs0]; exact HY, hx1.below hb2, hy1.below hb2, hb1.trans (hb2.mono hb1.size)⟩
  clear hx hy hb1 HX hx1 hy1 hb2 HY hs0
  rw [hW0] at H
  clear hW0 W0
  obtain ⟨⟨a1, n1, k1⟩, ⟨a2, n2, k2⟩, ⟨a3, n3, k3⟩, ⟨a4, n4, k4⟩⟩ := x
  obtain ⟨⟨b1, m1, j1⟩, ⟨b2, m2, j2⟩, ⟨b3, m3, j3⟩, ⟨b4, m4, j4⟩⟩ := y
  simp only at e1 e2 e3 e4 H ⊢
  subst e1 e2 e3 e4
  go_enter Try.func17, Try.ntmps17
  go_upto_region 1 with fail
  generalize ((w.alloc (.cells #[.slice a1 m1 k1, .slice a2 m2 k2, .slice a3 m3 k3, .slice a4 m4 k4] 29)).alloc (.cells #[.slice b1 m1 j1, .slice b2 m2 j2, .slice b3 m3 j3, .slice b4 m4 j4] 29)) = W1 at *
  obtain ⟨b, b', hb, hb', X, Y, DX, DY, BB⟩ := H.out
  clear H
  rw [← hb]
  rw [← hb] at hb'
  subst hb'
  have Hb : Hid (b = w.heap.size) := hb
  clear hb
  have H : Hid (SdSt w W1 b ⟨⟨a1, m1, k1⟩, ⟨a2, m2, k2⟩, ⟨a3, m3, k3⟩, ⟨a4, m4, k4⟩⟩ ⟨⟨b1, m1, j1⟩, ⟨b2, m2, j2⟩, ⟨b3, m3, j3⟩, ⟨b4, m4, j4⟩⟩ d) := ⟨X, Y, DX, DY, BB⟩
  clear X Y DX DY BB
  have x0 := H.out.1.1
  have x1 := H.out.1.2.1
  have x2 := H.out.1.2.2.1
  have y0 := H.out.2.1.1
  have y1 := H.out.2.1.2.1
  have y2 := H.out.2.1.2.2.1
  simp only at x0 x1 x2 y0 y1 y2
  go_wp2_with fail
  refine (sameT_yes a3 b3 m3 k3 j3 d.ts W1 H.out.2.2.1.h3.rd H.out.2.2.2.1.h3.rd H.out.2.2.1.h3.len (Nat.le_trans H.out.2.2.1.h3.cap.1 H.out.2.2.1.h3.cap.2)).mono ?_
  rintro e W2 ⟨rfl, H2⟩
  have H' : Hid (SdSt w W2 b ⟨⟨a1, m1, k1⟩, ⟨a2, m2, k2⟩, ⟨a3, m3, k3⟩, ⟨a4, m4, k4⟩⟩ ⟨⟨b1, m1, j1⟩, ⟨b2, m2, j2⟩, ⟨b3, m3, j3⟩, ⟨b4, m4, j4⟩⟩ d) := H.out.go H2.out
  clear H2 H x0 x1 x2 y0 y1 y2
  have x3 := H'.out.1.2.2.2.1
  have y3 := H'.out.2.1.2.2.2.1
  simp only at x3 y3
  go_wp2_with fail
  refine (same_yes a4 b4 m4 k4 j4 d.raw W2 H'.out.2.2.1.h4.rd H'.out.2.2.2.1.h4.rd H'.out.2.2.1.h4.len).mono ?_
  rintro e W3 ⟨rfl, rfl⟩
  clear x3 y3
  have hn1 : d.ns.length = m1 := H'.out.2.2.1.h1.len
  have hn2 : d.us.length = m2 := H'.out.2.2.1.h2.len
  have hm1 : m1 ≤ 9223372036854775807 := Nat.le_trans H'.out.2.2.1.h1.cap.1 H'.out.2.2.1.h1.cap.2
  have hm2 : m2 ≤ 9223372036854775807 := Nat.le_trans H'.out.2.2.1.h2.cap.1 H'.out.2.2.1.h2.cap.2
  have HN : Hid (d.ns.length = m1 ∧ d.us.length = m2) := ⟨hn1, hn2⟩
  clear hn1 hn2
  go_wp2_with fail
  go_loopw [5] (fun v wr => ∃ k : Nat, k ≤ m1 ∧ v = .int .i64 (k : Int) ∧ Hid (SdSt w wr b ⟨⟨a1, m1, k1⟩, ⟨a2, m2, k2⟩, ⟨a3, m3, k3⟩, ⟨a4, m4, k4⟩⟩ ⟨⟨b1, m1, j1⟩, ⟨b2, m2, j2⟩, ⟨b3, m3, j3⟩, ⟨b4, m4, j4⟩⟩ d)) (fun v _ => m1 - (intOf v).toNat)
  case atStart => exact ⟨0, Nat.zero_le _, rfl, H'⟩
  case round =>
    obtain ⟨k, hk, rfl, H⟩ := hrel
    clear H'
    have x0 := H.out.1.1
    have y0 := H.out.2.1.1
    simp only at x0 y0
    by_cases hlt : k < m1
    · have hlt' : (k : Int) < (m1 : Int) := by omega
      have hki : k < d.ns.length := by rw [HN.out.1]; exact hlt
      obtain ⟨B1, o1, ha1, hl1, z1, hz1, hr1⟩ := H.out.2.2.1.h1.at k hki
      obtain ⟨B2, o2, ha2, hl2, z2, hz2, hr2⟩ := H.out.2.2.2.1.h1.at k hki
      simp only at ha1 ha2
      subst ha1 ha2
      have ez : z2.n = z1.n := by rw [← hr1.len, ← hr2.len]
      rw [ez] at hz2
      have KS : Hid (∀ W', Below wr.heap.size wr W' → Calls Try.prog 47 #[.slice z1.a z1.n z1.c, .slice z2.a z1.n z2.c] W' fun e w' => e = .returned (.bool true) ∧ Hid (Below W'.heap.size W' w')) :=
        fun W' hb => sameN_yes z1.a z2.a z1.n z1.c z2.c d.ns[k] W' (hr1.rd.below hb) (hr2.rd.below hb) hr1.len (Nat.le_trans hr1.cap.1 hr1.cap.2)
      have HBx : Hid (Below wr.heap.size wr wr.drew) := (Below.refl _ _).drew
      have hbx := H.out.1.2.2.2.2
      have hby := H.out.2.1.2.2.2.2
      clear hr1 hr2 ez
      generalize z1.a = za1 at *
      generalize z1.n = zn1 at *
      generalize z1.c = zc1 at *
      generalize z2.a = za2 at *
      generalize z2.c = zc2 at *
      go_wp2_with fail
      go_region_held3 (fun W => W.cell? ⟨b, 0, none⟩ = some (.slice (some ⟨B1, o1, none⟩) m1 k1) ∧ W.cell? ⟨b + 1, 0, none⟩ = some (.slice (some ⟨B2, o2, none⟩) m1 j1) ∧ W.cell? ⟨B1, o1 + k, none⟩ = some (.slice za1 zn1 zc1) ∧ W.cell? ⟨B2, o2 + k, none⟩ = some (.slice za2 zn1 zc2)) (go_keep) (first
        | (go_at_call 47; refine (KS.out _ HBx.out).mono ?_; rintro e wy ⟨rfl, HY⟩; have q0 : wy.cell? ⟨b, 0, none⟩ = some (.slice (some ⟨B1, o1, none⟩) m1 k1) := (HY.out.cell (p := ⟨b, 0, none⟩) hbx).trans x0; have q1 : wy.cell? ⟨b + 1, 0, none⟩ = some (.slice (some ⟨B2, o2, none⟩) m1 j1) := (HY.out.cell (p := ⟨b + 1, 0, none⟩) hby).trans y0; have q2 : wy.cell? ⟨B1, o1 + k, none⟩ = some (.slice za1 zn1 zc1) := (HY.out.cell (p := ⟨B1, o1 + k, none⟩) hl1).trans hz1; have q3 : wy.cell? ⟨B2, o2 + k, none⟩ = some (.slice za2 zn1 zc2) := (HY.out.cell (p := ⟨B2, o2 + k, none⟩) hl2).trans hz2))
      have H2 : Hid (SdSt w wy b ⟨⟨some ⟨B1, o1, none⟩, m1, k1⟩, ⟨a2, m2, k2⟩, ⟨a3, m3, k3⟩, ⟨a4, m4, k4⟩⟩ ⟨⟨some ⟨B2, o2, none⟩, m1, j1⟩, ⟨b2, m2, j2⟩, ⟨b3, m3, j3⟩, ⟨b4, m4, j4⟩⟩ d) := H.out.go (HBx.out.trans HY.out)
      clear q0 q1 q2 q3 x0 y0 hz1 hz2 HY KS H HBx
      go_wp2_with fail
      exact ⟨⟨k + 1, by omega, by go_num, H2⟩, by simp [intOf]; omega⟩
    · have hge : ¬ (k : Int) < (m1 : Int) := by omega
      go_wp2_with fail
      obtain ⟨wz, hz⟩ : ∃ z, z = wr := ⟨_, rfl⟩
      subst hz
      clear x0 y0
      go_loopw [6] (fun v wr => ∃ k : Nat, k ≤ m2 ∧ v = .int .i64 (k : Int) ∧ Hid (SdSt w wr b ⟨⟨a1, m1, k1⟩, ⟨a2, m2, k2⟩, ⟨a3, m3, k3⟩, ⟨a4, m4, k4⟩⟩ ⟨⟨b1, m1, j1⟩, ⟨b2, m2, j2⟩, ⟨b3, m3, j3⟩, ⟨b4, m4, j4⟩⟩ d)) (fun v _ => m2 - (intOf v).toNat)
      case atStart => exact ⟨0, Nat.zero_le _, rfl, H⟩
      case round =>
        obtain ⟨i, hi, rfl, H'⟩ := hrel
        clear H
        have x1 := H'.out.1.2.1
        have y1 := H'.out.2.1.2.1
        simp only at x1 y1
        by_cases hit : i < m2
        · have hit' : (i : Int) < (m2 : Int) := by omega
          have hii : i < d.us.length := by rw [HN.out.2]; exact hit
          obtain ⟨B1, o1, ha1, hl1, hz1⟩ := H'.out.2.2.1.h2.at i hii
          obtain ⟨B2, o2, ha2, hl2, hz2⟩ := H'.out.2.2.2.1.h2.at i hii
          simp only at ha1 ha2
          subst ha1 ha2
          generalize d.us[i] = u at *
          go_wp2_with fail
          go_quiet (fail)
          have H2 : Hid (SdSt w (wr.drewN nq) b ⟨⟨a1, m1, k1⟩, ⟨some ⟨B1, o1, none⟩, m2, k2⟩, ⟨a3, m3, k3⟩, ⟨a4, m4, k4⟩⟩ ⟨⟨b1, m1, j1⟩, ⟨some ⟨B2, o2, none⟩, m2, j2⟩, ⟨b3, m3, j3⟩, ⟨b4, m4, j4⟩⟩ d) := H'.out.go ⟨rfl, rfl, rfl, Nat.le_refl _, fun _ _ => rfl⟩
          clear x1 y1 hz1 hz2 H'
          generalize wr.drewN nq = Wq at *
          go_wp2_with fail
          exact ⟨⟨i + 1, by omega, by go_num, H2⟩, by simp [intOf]; omega⟩
        · have hige : ¬ (i : Int) < (m2 : Int) := by omega
          go_wp2_with fail
          go_ret
          exact ⟨rfl, H'.out.2.2.2.2⟩
end Go.Proofs.Ytdeoembjfdbbkaa
/- What the document's examples say, at the head of each statement. -/
namespace Go.Proofs.Ytdeoembjfdbbkaa
open Go.ChangeShapes Go.WideShapes Go.ChangeAt Go.RowKit
set_option linter.unusedVariables false
set_option linter.unusedSimpArgs false

theorem rdv_new (w : World) (xs : List Value) (t : TypeId) : RdV (w.alloc (.cells xs.toArray t)) (some ⟨w.heap.size, 0, none⟩) xs := by
  refine .inr ⟨w.heap.size, 0, rfl, by simp, fun i hi => ?_⟩
  rw [Nat.zero_add]
  exact (show BlkV (w.alloc (.cells xs.toArray t)) w.heap.size t xs from heap_alloc_new _ _).cell i hi
theorem new_u (w : World) (us : List Nat) (n : Nat) (hn : us.length = n) (hm : n ≤ 1000) (hb : ∀ x ∈ us, x ≤ 4294967295) : URd (w.alloc (.cells (uv us).toArray 54)) ⟨some ⟨w.heap.size, 0, none⟩, n, n⟩ us :=
  ⟨rdv_new w (uv us) 54, hn, ⟨Nat.le_refl _, by simp only; omega⟩, by simp, hb⟩
theorem new_t (w : World) (ss : List ByteArray) (n : Nat) (hn : ss.length = n) (hm : n ≤ 1000) (hb : ∀ x ∈ ss, x.size ≤ 9223372036854775807) : TRd (w.alloc (.cells (tv ss).toArray 9)) ⟨some ⟨w.heap.size, 0, none⟩, n, n⟩ ss :=
  ⟨rdv_new w (tv ss) 9, hn, ⟨Nat.le_refl _, by simp only; omega⟩, by simp, hb⟩
theorem new_n1 (w : World) (s : Sl) (nm : List ByteArray) (h : TRd w s nm) : NRd (w.alloc (.cells #[.slice s.a s.n s.c] 53)) ⟨some ⟨w.heap.size, 0, none⟩, 1, 1⟩ [nm] := by
  refine ⟨.inr ⟨w.heap.size, 0, rfl, by simp, fun i hi => ?_⟩, rfl, ⟨Nat.le_refl _, by simp⟩, by simp⟩
  have : i = 0 := by simp at hi; omega
  subst this
  exact ⟨s, (show BlkV (w.alloc (.cells [Value.slice s.a s.n s.c].toArray 53)) w.heap.size 53 [Value.slice s.a s.n s.c] from heap_alloc_new _ _).cell 0 (by simp), h.below (new_below _ _)⟩
theorem new_b (w : World) (zs : List Int) (n : Nat) (hn : zs.length = n) (hm : n ≤ 1000) (hb : ∀ z ∈ zs, 0 ≤ z ∧ z ≤ 255) : BRd (w.alloc (.cells (zs.map (Value.int .u8)).toArray 5)) ⟨some ⟨w.heap.size, 0, none⟩, n, n⟩ zs := by
  refine ⟨⟨?_, hb⟩, hn, ⟨Nat.le_refl _, by simp only; omega⟩, by simp⟩
  have hblk : Blk (w.alloc (.cells (zs.map (Value.int .u8)).toArray 5)) w.heap.size zs := ⟨heap_alloc_new _ _, hb⟩
  exact .inr ⟨w.heap.size, 0, rfl, hblk.lt, fun i hi => by rw [Nat.zero_add]; exact hblk.cell i hi⟩
/-- What is written is read. -/
theorem readF_write (t : Nat) (d : Dat) (zs : List Int) (hck : checkF t d = 0) (hw : writeF t d = zs) (hl : zs.length ≤ 65535) : readF t zs = (d, 0) := by
  obtain ⟨hm, _, _, _⟩ := check_parts hck
  have := read_write t d hck
  rw [hw] at this
  unfold readF
  rw [if_pos hm, if_pos hl, this]
theorem readF_fail {t : Nat} {zs : List Int} (h : (readF t zs).2 ≠ 0) : (readF t zs).2 = 8 ∨ (readF t zs).2 = 6 := by
  unfold readF at h ⊢
  by_cases h1 : mayT t = true
  · rw [if_pos h1] at h ⊢
    by_cases h2 : zs.length ≤ 65535
    · rw [if_pos h2] at h ⊢
      cases hd : dreadF t zs with
      | none => exact .inl rfl
      | some d => rw [hd] at h; exact absurd rfl h
    · rw [if_neg h2]; exact .inl rfl
  · rw [if_neg h1]; exact .inr rfl
theorem readF_ok {t : Nat} {zs : List Int} (h : (readF t zs).2 = 0) : checkF t (readF t zs).1 = 0 ∧ writeF t (readF t zs).1 = zs ∧ zs.length ≤ 65535 := by
  unfold readF at h ⊢
  by_cases h1 : mayT t = true
  · rw [if_pos h1] at h ⊢
    by_cases h2 : zs.length ≤ 65535
    · rw [if_pos h2] at h ⊢
      cases hd : dreadF t zs with
      | none => rw [hd] at h; cases h
      | some d =>
        have := write_read hd
        exact ⟨this.1, this.2, h2⟩
    · rw [if_neg h2] at h; cases h
  · rw [if_neg h1] at h; cases h
abbrev mxD : Dat := ⟨[[⟨#[97]⟩]], [10], [], []⟩
abbrev txD : Dat := ⟨[], [], [⟨#[97]⟩, ⟨#[]⟩], []⟩
theorem mx_ck : checkF 15 mxD = 0 := by decide +kernel
theorem mx_wr : writeF 15 mxD = [0, 10, 1, 97, 0] := by decide +kernel
theorem tx_ck : checkF 16 txD = 0 := by decide +kernel
theorem tx_wr : writeF 16 txD = [1, 97, 0] := by decide +kernel
theorem tx_rd : readF 16 [1, 97, 0] = (txD, 0) := readF_write 16 txD _ tx_ck tx_wr (by simp)
set_option maxRecDepth 100000 in
set_option maxHeartbeats 4000000 in
theorem awake_any (w : World) : Calls Try.prog 31 #[] w fun e w' => e = .returned (.bool true) ∧ Hid (Below w.heap.size w w') := by
  have h1 := new_u w [10] 1 rfl (by omega) (by simp)
  obtain ⟨W1, hW1⟩ : ∃ W, W = w.alloc (.cells #[.int .u32 10] 54) := ⟨_, rfl⟩
  have h1' : URd W1 ⟨some ⟨w.heap.size, 0, none⟩, 1, 1⟩ [10] := by rw [hW1]; exact h1
  have b1 : Below w.heap.size w W1 := by rw [hW1]; exact new_below _ _
  have z1 : W1.heap.size = w.heap.size + 1 := by rw [hW1]; simp
  have h2 : TRd (W1.alloc (.cells #[.string ⟨#[97]⟩] 9)) ⟨some ⟨W1.heap.size, 0, none⟩, 1, 1⟩ [⟨#[97]⟩] := new_t W1 [⟨#[97]⟩] 1 rfl (by omega) (by intro x hx; simp at hx; subst hx; decide)
  have b2 := new_below W1 (.cells #[.string ⟨#[97]⟩] 9)
  obtain ⟨W2, hW2⟩ : ∃ W, W = W1.alloc (.cells #[.string ⟨#[97]⟩] 9) := ⟨_, rfl⟩
  rw [← hW2] at h2 b2
  have z2 : W2.heap.size = w.heap.size + 1 + 1 := by rw [hW2]; simp [z1]
  have h3 := new_n1 W2 ⟨some ⟨W1.heap.size, 0, none⟩, 1, 1⟩ [⟨#[97]⟩] h2
  have b3 := new_below W2 (.cells #[.slice (some ⟨W1.heap.size, 0, none⟩) 1 1] 53)
  obtain ⟨W3, hW3⟩ : ∃ W, W = W2.alloc (.cells #[.slice (some ⟨W1.heap.size, 0, none⟩) 1 1] 53) := ⟨_, rfl⟩
  simp only at h3
  rw [← hW3] at h3 b3
  have b13 : Below W1.heap.size W1 W3 := b2.trans (b3.mono b2.size)
  have HD : Hid (DRd W3 ⟨⟨some ⟨w.heap.size + 1 + 1, 0, none⟩, 1, 1⟩, ⟨some ⟨w.heap.size, 0, none⟩, 1, 1⟩, ⟨none, 0, 0⟩, ⟨none, 0, 0⟩⟩ mxD) := by
    rw [z2] at h3
    exact ⟨h3, h1'.below b13, nil_trd _, nil_brd _⟩
  have HB : Hid (Below w.heap.size w W3) := b1.trans (b13.mono b1.size)
  have hW : ((w.alloc (.cells #[.int .u32 10] 54)).alloc (.cells #[.string ⟨#[97]⟩] 9)).alloc (.cells #[.slice (some ⟨w.heap.size + 1, 0, none⟩) 1 1] 53) = W3 := by rw [hW3, hW2, z1, hW1]
  clear h1 h1' b1 h2 b2 h3 b3 b13 hW1 hW2 hW3
  have KB := bytes5_any 15 ⟨⟨some ⟨w.heap.size + 1 + 1, 0, none⟩, 1, 1⟩, ⟨some ⟨w.heap.size, 0, none⟩, 1, 1⟩, ⟨none, 0, 0⟩, ⟨none, 0, 0⟩⟩ mxD W3 HD.out ⟨by decide, by decide, by decide, by decide, by decide⟩
  rw [mx_ck, mx_wr] at KB
  have KBH : Hid (Calls Try.prog 10 #[.int .u16 15, .agg #[.slice (some ⟨w.heap.size + 1 + 1, 0, none⟩) 1 1, .slice (some ⟨w.heap.size, 0, none⟩) 1 1, .slice none 0 0, .slice none 0 0]] W3 fun e w' => ∃ s : Sl, e = .returned (.tuple #[.slice s.a s.n s.c, .int .i64 0]) ∧ Hid (s.n = 5 ∧ Rd w' s.a [0, 10, 1, 97, 0] ∧ Below W3.heap.size W3 w')) := by
    refine Calls.mono KB ?_
    rintro e w' ⟨s, rfl, H⟩
    obtain ⟨q1, q2, q3, q4, q5, q6⟩ := H.out
    exact ⟨s, rfl, (q4 rfl).1, (q4 rfl).2, q6⟩
  clear KB HD
  go_enter Try.func31, Try.ntmps31
  go_wp2_with fail
  try rw [hW]
  clear hW
  refine KBH.out.mono ?_
  rintro e W4 ⟨s, rfl, H4⟩
  clear KBH
  have h5 : BRd (W4.alloc (.cells #[.int .u8 1, .int .u8 97, .int .u8 0] 5)) ⟨some ⟨W4.heap.size, 0, none⟩, 3, 3⟩ [1, 97, 0] := new_b W4 [1, 97, 0] 3 rfl (by omega) (by decide)
  have b5 := new_below W4 (.cells #[.int .u8 1, .int .u8 97, .int .u8 0] 5)
  have H5 : Hid (Rd (W4.alloc (.cells #[.int .u8 1, .int .u8 97, .int .u8 0] 5)) s.a [0, 10, 1, 97, 0] ∧ s.n = 5 ∧ Below w.heap.size w (W4.alloc (.cells #[.int .u8 1, .int .u8 97, .int .u8 0] 5)) ∧ Rd (W4.alloc (.cells #[.int .u8 1, .int .u8 97, .int .u8 0] 5)) (some ⟨W4.heap.size, 0, none⟩) [1, 97, 0]) := ⟨H4.out.2.1.below b5, H4.out.1, (HB.out.trans (H4.out.2.2.mono HB.out.size)).trans (b5.mono (HB.out.trans (H4.out.2.2.mono HB.out.size)).size), h5.rd⟩
  clear h5 b5 H4 HB
  go_wp2_with fail
  generalize W4.alloc (.cells #[.int .u8 1, .int .u8 97, .int .u8 0] 5) = W5 at *
  generalize W4.heap.size = g4 at *
  have KR := read5_any 16 (some ⟨g4, 0, none⟩) 3 3 [1, 97, 0] W5 H5.out.2.2.2 rfl (by omega) (by simp)
  rw [tx_rd] at KR
  have KRH : Hid (Calls Try.prog 27 #[.int .u16 16, .slice (some ⟨g4, 0, none⟩) 3 3] W5 (RdP (txD, 0) W5)) := KR
  clear KR
  refine KRH.out.mono ?_
  rintro e W6 ⟨x, rfl, H6⟩
  clear KRH
  go_upto_region 3 with fail
  have b7 := new_below W6 (.cells #[.slice x.p1.a x.p1.n x.p1.c, .slice x.p2.a x.p2.n x.p2.c, .slice x.p3.a x.p3.n x.p3.c, .slice x.p4.a x.p4.n x.p4.c] 29)
  have H7 : Hid (DBlk (W6.alloc (.cells #[.slice x.p1.a x.p1.n x.p1.c, .slice x.p2.a x.p2.n x.p2.c, .slice x.p3.a x.p3.n x.p3.c, .slice x.p4.a x.p4.n x.p4.c] 29)) W6.heap.size x ∧ TRd (W6.alloc (.cells #[.slice x.p1.a x.p1.n x.p1.c, .slice x.p2.a x.p2.n x.p2.c, .slice x.p3.a x.p3.n x.p3.c, .slice x.p4.a x.p4.n x.p4.c] 29)) x.p3 [⟨#[97]⟩, ⟨#[]⟩] ∧ Rd (W6.alloc (.cells #[.slice x.p1.a x.p1.n x.p1.c, .slice x.p2.a x.p2.n x.p2.c, .slice x.p3.a x.p3.n x.p3.c, .slice x.p4.a x.p4.n x.p4.c] 29)) s.a [0, 10, 1, 97, 0] ∧ Below w.heap.size w (W6.alloc (.cells #[.slice x.p1.a x.p1.n x.p1.c, .slice x.p2.a x.p2.n x.p2.c, .slice x.p3.a x.p3.n x.p3.c, .slice x.p4.a x.p4.n x.p4.c] 29))) := by
    obtain ⟨q1, q2⟩ := H6.out
    obtain ⟨p1, p2, p3, p4⟩ := H5.out
    exact ⟨heap_alloc_new _ _, q1.2.2.1.rd.below b7, (p1.below q2).below b7, (p3.trans (q2.mono p3.size)).trans (b7.mono (Nat.le_trans p3.size q2.size))⟩
  have hsn : s.n = 5 := H5.out.2.1
  clear b7 H6 H5
  generalize W6.alloc (.cells #[.slice x.p1.a x.p1.n x.p1.c, .slice x.p2.a x.p2.n x.p2.c, .slice x.p3.a x.p3.n x.p3.c, .slice x.p4.a x.p4.n x.p4.c] 29) = W7 at *
  generalize W6.heap.size = D at *
  obtain ⟨x1, x2, ⟨a3, n3, c3⟩, x4⟩ := x
  have hn3 : n3 = 2 := H7.out.2.1.len.symm
  subst hn3
  obtain ⟨sa, sn, sc⟩ := s
  simp only at hsn H7 ⊢
  subst hsn
  have hcv : (convert 27 9 (.slice sa 5 sc)).run Try.prog W7 = .ok (.string ⟨#[0, 10, 1, 97, 0]⟩) W7 := conv_rd sa 5 sc [0, 10, 1, 97, 0] W7 H7.out.2.2.1 rfl
  have d2 : W7.cell? ⟨D, 2, none⟩ = some (.slice a3 2 c3) := H7.out.1.box.2.2.1
  have hDl := H7.out.1.lt
  have K8 : Hid (Calls Try.prog 46 #[.slice a3 2 c3, .slice (some ⟨W7.heap.size, 0, none⟩) 2 2] (W7.alloc (.cells #[.string ⟨#[97]⟩, .string ⟨#[]⟩] 9)) fun e w' => e = .returned (.bool true) ∧ Hid (Below (W7.alloc (.cells #[.string ⟨#[97]⟩, .string ⟨#[]⟩] 9)).heap.size (W7.alloc (.cells #[.string ⟨#[97]⟩, .string ⟨#[]⟩] 9)) w')) := sameT_yes a3 (some ⟨W7.heap.size, 0, none⟩) 2 c3 2 [⟨#[97]⟩, ⟨#[]⟩] _ (H7.out.2.1.rd.below (new_below _ _)) (rdv_new W7 (tv [⟨#[97]⟩, ⟨#[]⟩]) 9) rfl (by omega)
  have HB8 : Hid (Below w.heap.size w (W7.alloc (.cells #[.string ⟨#[97]⟩, .string ⟨#[]⟩] 9))) := H7.out.2.2.2.trans ((new_below _ _).mono H7.out.2.2.2.size)
  go_wp2_with fail
  refine K8.out.mono ?_
  rintro e W9 ⟨rfl, H9⟩
  have HB9 : Hid (Below w.heap.size w W9) := HB8.out.trans (H9.out.mono HB8.out.size)
  clear K8 HB8 H9 H7
  go_wp2_with fail
  go_ret
  exact ⟨rfl, HB9⟩
end Go.Proofs.Ytdeoembjfdbbkaa
