/- Texts laid together, in parts: Gd Ge Hj Hk Hm Hn Hq Ia Tk Sd Hw Rk Va Vp Vb Num Vc Vd Ve Vg Vw Xc Ua Xd. -/
import Derived.Test.YtmlccnpondemiaaWta
import Derived.Deep.RegionLaw
import Derived.Deep.CutBlock
import Derived.WalkSpells
import Derived.BigRegion
import Derived.Laws.BitsAllLaws
import Derived.WalkKit
import Derived.Deep.RegionHeld3
import Derived.Lib.Hide
namespace Go.Proofs.Ytmlccnpondemiaa
open Go.ChangeShapes Go.WideShapes Go.ChangeAt Go.RowKit
set_option linter.unusedVariables false
set_option linter.unusedSimpArgs false
/-- No data. -/
abbrev nilDA : DA := ⟨⟨none, 0, 0⟩, ⟨none, 0, 0⟩, ⟨none, 0, 0⟩, ⟨none, 0, 0⟩⟩
theorem own_brd {B : Nat} {w : World} {s : Sl} {zs ys : List Int} (h : Own B w (.slice s.a s.n s.c) zs.length ys) (ht : ys.take zs.length = zs) : BRd w s zs := by
  obtain ⟨sa, sn, sc⟩ := s
  obtain ⟨ao, e, hoa⟩ := h.addr
  injection e with e1 e2 e3
  simp only at e1 e2 e3
  subst e1 e2 e3
  have hrd := hoa.rdTake zs.length
  rw [ht] at hrd
  refine ⟨hrd, rfl, ?_, ?_⟩
  · rcases h with ⟨_, h0, h1⟩ | ⟨g, _, _, _, h1, h2⟩
    · subst h1; simp [h0]
    · exact ⟨h1, by simp only [maxLen] at h2; exact h2⟩
  · intro hn
    rcases h with ⟨_, _, h1⟩ | ⟨g, e, _⟩
    · subst h1; rfl
    · simp only at hn e; rw [hn] at e; cases e
/-- Numbers of one's own. -/
def UOwn (B : Nat) (w : World) (s : Sl) (us : List Nat) : Prop := ∃ xs, OwnV B w 73 (.slice s.a s.n s.c) us.length xs ∧ xs.take us.length = uv us ∧ (∀ u ∈ us, u ≤ 4294967295) ∧ ∀ v ∈ xs, ∃ z : Int, v = .int .u32 z ∧ 0 ≤ z ∧ z ≤ 4294967295
/-- Bytes of one's own. -/
def BOwn (B : Nat) (w : World) (s : Sl) (zs : List Int) : Prop := ∃ ys, Own B w (.slice s.a s.n s.c) zs.length ys ∧ ys.take zs.length = zs
theorem UOwn.keep {B : Nat} {w w' : World} {s : Sl} {us : List Nat} (h : UOwn B w s us) (hb : ∀ j, B ≤ j → j < w.heap.size → w'.heap[j]? = w.heap[j]?) : UOwn B w' s us := by
  obtain ⟨xs, h1, h2⟩ := h
  exact ⟨xs, h1.keep (fun j e hj => hb j (h1.lt j e) hj), h2⟩
theorem own_keep2 {B : Nat} {w w' : World} {v : Value} {n : Nat} {zs : List Int} (h : Own B w v n zs) (hb : ∀ j, B ≤ j → j < w.heap.size → w'.heap[j]? = w.heap[j]?) : Own B w' v n zs := by
  rcases h with h | ⟨g, h1, h2, h3, h4⟩
  · exact .inl h
  · exact .inr ⟨g, h1, h2, h3.same (hb g h2 h3.lt), h4⟩
theorem BOwn.keep {B : Nat} {w w' : World} {s : Sl} {zs : List Int} (h : BOwn B w s zs) (hb : ∀ j, B ≤ j → j < w.heap.size → w'.heap[j]? = w.heap[j]?) : BOwn B w' s zs := by
  obtain ⟨ys, h1, h2⟩ := h
  exact ⟨ys, own_keep2 h1 hb, h2⟩
theorem UOwn.rd {B : Nat} {w : World} {s : Sl} {us : List Nat} (h : UOwn B w s us) : URd w s us := by
  obtain ⟨xs, h1, h2, h3⟩ := h
  obtain ⟨sa, sn, sc⟩ := s
  obtain ⟨ao, e, hnil⟩ := h1.shape
  have hle := h1.le
  injection e with e1 e2 e3
  simp only at e1 e2 e3
  subst e1 e2 e3
  have hrd := h1.rd us.length
  rw [h2] at hrd
  exact ⟨hrd, rfl, ⟨hle.1, by have := hle.2; simp only [maxLen] at this; exact this⟩, hnil, h3.1⟩
theorem BOwn.rd {B : Nat} {w : World} {s : Sl} {zs : List Int} (h : BOwn B w s zs) : BRd w s zs := by
  obtain ⟨ys, h1, h2⟩ := h
  exact own_brd h1 h2
end Go.Proofs.Ytmlccnpondemiaa
namespace Go.Proofs.Ytmlccnpondemiaa
open Go.ChangeShapes Go.WideShapes Go.ChangeAt Go.RowKit
set_option linter.unusedVariables false
set_option linter.unusedSimpArgs false
theorem step_append_row {P : Program} {t e : TypeId} {z : Value} {bt : Nat} (T : ElemTy P t e z bt) {w : World} {ops : Array Oper} {o : Oper} {a : Act} {K : Act → World → Prop} {Q : Exit → Act → World → Prop} {E : Prop} (hgd : o.guard = none) (s x : Operand) (tx : TypeId)
    (ho : o.op = .call { callee := .builtin .append, args := #[s, x], argTypes := #[t, tx] }) (B : Nat) (v : Value) (n : Nat) (xs : List Value) (hs : a.eval s = v) (hown : OwnV B w e v n xs)
    (xv : Value) (m : Nat) (news : List Value) (hx : a.eval x = xv) (hsrc : Src P 1 tx xv m news w) (hb : (n + m) * bt ≤ 140737488355328) (h63 : n + m ≤ maxLen) (hB : B ≤ w.heap.size)
    (h : ∀ v' w' xs', Hid (OwnV B w' e v' (n + m) xs') → Hid (xs'.take (n + m) = xs.take n ++ news) → Hid (w.grownBy w' v.ownBlock) → Hid (∀ Q : Value → Prop, Q z → (∀ u ∈ xs, Q u) → (∀ u ∈ news, Q u) → ∀ u ∈ xs', Q u) → K (a.put o.dst v') w') :
    if Region.wanted o (yielded ops a.tmps) = true then Oper.wp P o a w K Q else E := by
  have hw : Region.wanted o (yielded ops a.tmps) = true := by simp [Region.wanted, hgd]
  rw [if_pos hw]
  obtain ⟨v', w', xs', hrun, h2, h3, h4, h5⟩ := run_append_row T w B tx o.type v n xs hown xv m news hsrc hb h63 hB
  unfold Oper.wp execOp
  simp only [ho, resolve, invoke, builtin, Sem.run_bind, Sem.run_pure, Result.andThen_ok, List.map_toArray, List.map_cons, List.map_nil, hs, hx, hrun]
  exact h v' w' xs' h2 h3 h4 h5.1
theorem tyU : ElemTy Try.prog 75 73 (.int .u32 0) 4 := ⟨Try.underlying75, by kernel_rfl, rfl⟩
end Go.Proofs.Ytmlccnpondemiaa
namespace Go.Proofs.Ytmlccnpondemiaa
open Go.ChangeShapes Go.WideShapes Go.ChangeAt Go.RowKit
set_option linter.unusedVariables false
set_option linter.unusedSimpArgs false
theorem UOwn.stays {B : Nat} {w w' : World} {s : Sl} {us : List Nat} (h : UOwn B w s us) (hb : Below w.heap.size w w') : UOwn B w' s us := h.keep fun j _ h2 => hb.block j h2
theorem BOwn.stays {B : Nat} {w w' : World} {s : Sl} {zs : List Int} (h : BOwn B w s zs) (hb : Below w.heap.size w w') : BOwn B w' s zs := h.keep fun j _ h2 => hb.block j h2
end Go.Proofs.Ytmlccnpondemiaa
namespace Go.Proofs.Ytmlccnpondemiaa
open Go.ChangeShapes Go.WideShapes Go.ChangeAt Go.RowKit
set_option linter.unusedVariables false
set_option linter.unusedSimpArgs false
theorem one_n (w : World) (s : Sl) : RdV (w.alloc (.cells #[.slice s.a s.n s.c] 46)) (some ⟨w.heap.size, 0, none⟩) [.slice s.a s.n s.c] := by
  refine .inr ⟨w.heap.size, 0, rfl, by simp, fun i hi => ?_⟩
  have : i = 0 := by simp at hi; omega
  subst this
  unfold World.cell?
  rw [heap_alloc_new]
  rfl
end Go.Proofs.Ytmlccnpondemiaa
namespace Go.Proofs.Ytmlccnpondemiaa
open Go.ChangeShapes Go.WideShapes Go.ChangeAt Go.RowKit
set_option linter.unusedVariables false
set_option linter.unusedSimpArgs false
theorem UOwn.keepTy {B : Nat} {w w' : World} {s : Sl} {us : List Nat} (h : UOwn B w s us) (hb : ∀ j, B ≤ j → j < w.heap.size → (∃ zs, BlkV w j 73 zs) → w'.heap[j]? = w.heap[j]?) : UOwn B w' s us := by
  obtain ⟨xs, h1, h2, h3⟩ := h
  refine ⟨xs, ?_, h2, h3⟩
  rcases h1 with h1 | ⟨g, e, hg, hblk, hn⟩
  · exact .inl h1
  · exact .inr ⟨g, e, hg, hblk.same (hb g hg hblk.lt ⟨_, hblk⟩), hn⟩
theorem blk_ty {w : World} {j : Nat} {t1 t2 : TypeId} {xs ys : List Value} (h1 : BlkV w j t1 xs) (h2 : BlkV w j t2 ys) : t1 = t2 := by
  have hh : w.heap[j]? = some (.cells xs.toArray t1 (0, 0)) := h1
  have hh' : w.heap[j]? = some (.cells ys.toArray t2 (0, 0)) := h2
  rw [hh] at hh'
  injection hh' with hh'
  injection hh'
end Go.Proofs.Ytmlccnpondemiaa
namespace Go.Proofs.Ytmlccnpondemiaa
open Go.ChangeShapes Go.WideShapes Go.ChangeAt Go.RowKit
set_option linter.unusedVariables false
set_option linter.unusedSimpArgs false
theorem UOwn.mono {B B' : Nat} {w : World} {s : Sl} {us : List Nat} (h : UOwn B w s us) (hB : B' ≤ B) : UOwn B' w s us := by
  obtain ⟨xs, h1, h2⟩ := h
  exact ⟨xs, h1.mono hB, h2⟩
theorem BOwn.mono {B B' : Nat} {w : World} {s : Sl} {zs : List Int} (h : BOwn B w s zs) (hB : B' ≤ B) : BOwn B' w s zs := by
  obtain ⟨xs, h1, h2⟩ := h
  exact ⟨xs, own_mono h1 hB, h2⟩
theorem UOwn.offTy {B : Nat} {w w' : World} {s : Sl} {us : List Nat} (h : UOwn B w s us) (hg : ∃ o, w.grownBy w' o ∧ ∀ j, o = some j → B ≤ j ∧ ∃ zs, BlkV w j 46 zs) : UOwn B w' s us := by
  obtain ⟨o, h1, h2⟩ := hg
  refine h.keepTy fun j _ hj ⟨zs, hz⟩ => h1.block j hj (fun e => ?_)
  obtain ⟨_, zs', hz'⟩ := h2 j e.symm
  exact absurd (blk_ty hz hz') (by decide)
theorem DBlk.offTy {W W' : World} {D B : Nat} {x : DA} (h : DBlk W D x) (hg : ∃ o, W.grownBy W' o ∧ ∀ j, o = some j → B ≤ j ∧ ∃ zs, BlkV W j 46 zs) : DBlk W' D x := by
  obtain ⟨o, h1, h2⟩ := hg
  refine h.same (h1.block D h.lt (fun e => ?_))
  obtain ⟨_, zs', hz'⟩ := h2 D e.symm
  have hh : W.heap[D]? = _ := h
  have hh' : W.heap[D]? = some (.cells zs'.toArray 46 (0, 0)) := hz'
  rw [hh] at hh'
  injection hh' with hh'
  injection hh' with _ hh'
  exact absurd hh' (by decide)
theorem dblk_new (W : World) : DBlk (W.alloc (.cells #[.slice none 0 0, .slice none 0 0, .slice none 0 0, .slice none 0 0] 77)) W.heap.size nilDA := heap_alloc_new _ _
theorem DBlk.ne {W : World} {D j : Nat} {x : DA} {t : TypeId} {zs : List Value} (h : DBlk W D x) (hz : BlkV W j t zs) (ht : t ≠ 77) : j ≠ D := by
  rintro rfl
  have hh : W.heap[j]? = _ := h
  have hh' : W.heap[j]? = some (.cells zs.toArray t (0, 0)) := hz
  rw [hh] at hh'
  injection hh' with hh'
  injection hh' with _ hh'
  exact ht hh'.symm
/-- Four cells of a box are written. -/
abbrev set4 (W : World) (D : Nat) (x : DA) : World := (((W.setCell ⟨D, 0, none⟩ (.slice x.p1.a x.p1.n x.p1.c)).setCell ⟨D, 1, none⟩ (.slice x.p2.a x.p2.n x.p2.c)).setCell ⟨D, 2, none⟩ (.slice x.p3.a x.p3.n x.p3.c)).setCell ⟨D, 3, none⟩ (.slice x.p4.a x.p4.n x.p4.c)
theorem set4_blk {W : World} {D : Nat} {y : DA} (h : DBlk W D y) (x : DA) : DBlk (set4 W D x) D x := (heap_set (heap_set (heap_set (heap_set h 0 _) 1 _) 2 _) 3 _).trans (by simp)
theorem set4_off (W : World) (D : Nat) (x : DA) (j : Nat) (hj : j ≠ D) : (set4 W D x).heap[j]? = W.heap[j]? :=
  (((Below.heap_setCell _ _ _ j hj).trans (Below.heap_setCell _ _ _ j hj)).trans (Below.heap_setCell _ _ _ j hj)).trans (Below.heap_setCell _ _ _ j hj)
theorem BOwn.keepD {B : Nat} {w w' : World} {s : Sl} {zs : List Int} {D : Nat} {x : DA} (h : BOwn B w s zs) (hD : DBlk w D x) (hb : ∀ j, j ≠ D → w'.heap[j]? = w.heap[j]?) : BOwn B w' s zs := by
  obtain ⟨ys, h1, h2⟩ := h
  refine ⟨ys, ?_, h2⟩
  rcases h1 with h1 | ⟨g, e1, e2, e3, e4⟩
  · exact .inl h1
  · refine .inr ⟨g, e1, e2, e3.same (hb g ?_), e4⟩
    rintro rfl
    have hh : w.heap[g]? = _ := hD
    have hh' := e3.1
    rw [hh] at hh'
    injection hh' with hh'
    injection hh' with _ hh'
    exact absurd hh' (by decide)
end Go.Proofs.Ytmlccnpondemiaa
namespace Go.Proofs.Ytmlccnpondemiaa
open Go.ChangeShapes Go.WideShapes Go.ChangeAt Go.RowKit
set_option linter.unusedVariables false
set_option linter.unusedSimpArgs false
theorem ret4 {w W : World} {b : Nat} {y : DA} (h : DBlk W b y) (hb : Below w.heap.size w W) (hw : w.heap.size ≤ b) (x : DA) : DBlk (set4 W b x) b x ∧ Below w.heap.size w (set4 W b x) :=
  ⟨set4_blk h x, (((hb.setCell (p := ⟨b, 0, none⟩) hw _).setCell (p := ⟨b, 1, none⟩) hw _).setCell (p := ⟨b, 2, none⟩) hw _).setCell (p := ⟨b, 3, none⟩) hw _⟩
end Go.Proofs.Ytmlccnpondemiaa
namespace Go.Proofs.Ytmlccnpondemiaa
open Go.ChangeShapes Go.WideShapes Go.ChangeAt Go.RowKit
set_option linter.unusedVariables false
set_option linter.unusedSimpArgs false
theorem al_below {w W : World} {B : Nat} {o : Obj} (h : Below B w W) (hB : B ≤ w.heap.size) : Below B w (W.alloc o) := h.alloc (Nat.le_trans hB h.size) _
theorem BOwn.offTy {B : Nat} {w w' : World} {s : Sl} {zs : List Int} (h : BOwn B w s zs) (hg : ∃ o, w.grownBy w' o ∧ ∀ j, o = some j → B ≤ j ∧ ∃ zs, BlkV w j 46 zs) : BOwn B w' s zs := by
  obtain ⟨o, h1, h2⟩ := hg
  obtain ⟨ys, h3, h4⟩ := h
  refine ⟨ys, ?_, h4⟩
  rcases h3 with h3 | ⟨g, e1, e2, e3, e4⟩
  · exact .inl h3
  · refine .inr ⟨g, e1, e2, e3.same (h1.block g e3.lt (fun e => ?_)), e4⟩
    obtain ⟨_, zs', hz'⟩ := h2 g e.symm
    have hh := e3.1
    have hh' : w.heap[g]? = some (.cells zs'.toArray 46 (0, 0)) := hz'
    rw [hh] at hh'
    injection hh' with hh'
    injection hh' with _ hh'
    exact absurd hh' (by decide)
end Go.Proofs.Ytmlccnpondemiaa
namespace Go.Proofs.Ytmlccnpondemiaa
open Go.ChangeShapes Go.WideShapes Go.ChangeAt Go.RowKit
set_option linter.unusedVariables false
set_option linter.unusedSimpArgs false
/-- A name of one's own. -/
def Owx1 (B : Nat) (w : World) (s : Sl) (nm : List ByteArray) : Prop := ∃ ys, OwnT B w (.slice s.a s.n s.c) nm.length ys 9223372036854775807 ∧ ys.take nm.length = nm
theorem Owx1.keep {B : Nat} {w w' : World} {s : Sl} {nm : List ByteArray} (h : Owx1 B w s nm) (hb : ∀ j, B ≤ j → j < w.heap.size → (∃ zs, BlkV w j 9 zs) → w'.heap[j]? = w.heap[j]?) : Owx1 B w' s nm := by
  obtain ⟨ys, ⟨h1, h2⟩, h3⟩ := h
  refine ⟨ys, ⟨?_, h2⟩, h3⟩
  rcases h1 with h1 | ⟨g, e, hg, hblk, hn⟩
  · exact .inl h1
  · exact .inr ⟨g, e, hg, hblk.same (hb g hg hblk.lt ⟨_, hblk⟩), hn⟩
theorem Owx1.rd {B : Nat} {w : World} {s : Sl} {nm : List ByteArray} (h : Owx1 B w s nm) : TRd w s nm := by
  obtain ⟨ys, h1, h3⟩ := h
  obtain ⟨ao, e, hnil⟩ := h1.shape
  have hle := h1.le
  obtain ⟨sa, sn, sc⟩ := s
  simp only at e h1
  injection e with e1 e2 e3
  subst e1 e2 e3
  have hrd := h1.rd nm.length
  rw [h3] at hrd
  refine ⟨hrd, rfl, ⟨hle.1, by have := hle.2; simp only [maxLen] at this; exact this⟩, hnil, fun x hx => ?_⟩
  have : x ∈ ys := by rw [← h3] at hx; exact List.mem_of_mem_take hx
  have := h1.2 x this
  omega
/-- A list of names of one's own, from the block B on. -/
def OwxN (B : Nat) (w : World) (v : Value) (nss : List (List ByteArray)) : Prop :=
  ∃ xs, OwnV B w 46 v nss.length xs ∧ ∀ i (hi : i < nss.length), ∃ s : Sl, xs[i]? = some (.slice s.a s.n s.c) ∧ Owx1 B w s nss[i]
theorem OwxN.nil (B : Nat) (w : World) : OwxN B w (.slice none 0 0) [] := ⟨[], OwnV.nil B w 46, fun i hi => absurd hi (by simp)⟩
theorem OwxN.keep {B : Nat} {w w' : World} {v : Value} {nss : List (List ByteArray)} (h : OwxN B w v nss) (hb : ∀ j, B ≤ j → j < w.heap.size → w'.heap[j]? = w.heap[j]?) : OwxN B w' v nss := by
  obtain ⟨xs, h1, h2⟩ := h
  refine ⟨xs, h1.keep (fun j e hj => hb j (h1.lt j e) hj), fun i hi => ?_⟩
  obtain ⟨s, e1, e2⟩ := h2 i hi
  exact ⟨s, e1, e2.keep (fun j h1 h2 _ => hb j h1 h2)⟩
theorem OwxN.rd {B : Nat} {w : World} {s : Sl} {nss : List (List ByteArray)} (h : OwxN B w (.slice s.a s.n s.c) nss) : NRd w s nss := by
  obtain ⟨a, n, c⟩ := s
  obtain ⟨xs, h1, h2⟩ := h
  rcases h1 with ⟨e, e0, rfl⟩ | ⟨g, e, hg, hblk, hn, hm⟩
  · injection e with e1 e2 e3
    simp only at e1 e2 e3
    subst e1 e2 e3
    exact ⟨.inl (List.eq_nil_of_length_eq_zero e0), e0, ⟨Nat.le_refl _, Nat.zero_le _⟩, fun _ => rfl⟩
  · injection e with e1 e2 e3
    simp only at e1 e2 e3
    subst e1 e2 e3
    refine ⟨.inr ⟨g, 0, rfl, hblk.lt, fun i hi => ?_⟩, rfl, ⟨hn, by simp only [maxLen] at hm; exact hm⟩, by simp⟩
    obtain ⟨s, e1, e2⟩ := h2 i hi
    refine ⟨s, ?_, e2.rd⟩
    rw [Nat.zero_add, hblk.cell i (by omega)]
    rw [List.getElem?_eq_getElem (by omega)] at e1
    exact e1
/-- Data of one's own. -/
def DOwx (B : Nat) (w : World) (x : DA) (d : Dat) : Prop := OwxN B w (.slice x.p1.a x.p1.n x.p1.c) d.ns ∧ UOwn B w x.p2 d.us ∧ Owx1 B w x.p3 d.ts ∧ BOwn B w x.p4 d.raw
theorem DOwx.keep {B : Nat} {w w' : World} {x : DA} {d : Dat} (h : DOwx B w x d) (hb : ∀ j, B ≤ j → j < w.heap.size → w'.heap[j]? = w.heap[j]?) : DOwx B w' x d :=
  ⟨h.1.keep hb, h.2.1.keep hb, h.2.2.1.keep (fun j h1 h2 _ => hb j h1 h2), h.2.2.2.keep hb⟩
theorem DOwx.rd {B : Nat} {w : World} {x : DA} {d : Dat} (h : DOwx B w x d) : DRd w x d := ⟨h.1.rd, h.2.1.rd, h.2.2.1.rd, h.2.2.2.rd⟩
theorem Owx1.stays {B : Nat} {w w' : World} {s : Sl} {nm : List ByteArray} (h : Owx1 B w s nm) (hb : Below w.heap.size w w') : Owx1 B w' s nm := h.keep fun j _ h2 _ => hb.block j h2
theorem Owx1.mono {B B' : Nat} {w : World} {s : Sl} {nm : List ByteArray} (h : Owx1 B w s nm) (hB : B' ≤ B) : Owx1 B' w s nm := by
  obtain ⟨ys, h1, h2⟩ := h
  exact ⟨ys, h1.mono hB, h2⟩
theorem OwxN.mono {B B' : Nat} {w : World} {v : Value} {nss : List (List ByteArray)} (h : OwxN B w v nss) (hB : B' ≤ B) : OwxN B' w v nss := by
  obtain ⟨xs, h1, h2⟩ := h
  refine ⟨xs, h1.mono hB, fun i hi => ?_⟩
  obtain ⟨s, e1, e2⟩ := h2 i hi
  exact ⟨s, e1, e2.mono hB⟩
theorem Owx1.offTy {B : Nat} {w w' : World} {s : Sl} {us : List ByteArray} (h : Owx1 B w s us) (hg : ∃ o, w.grownBy w' o ∧ ∀ j, o = some j → B ≤ j ∧ ∃ zs, BlkV w j 46 zs) : Owx1 B w' s us := by
  obtain ⟨o, h1, h2⟩ := hg
  refine h.keep fun j _ hj ⟨zs, hz⟩ => h1.block j hj (fun e => ?_)
  obtain ⟨_, zs', hz'⟩ := h2 j e.symm
  exact absurd (blk_ty hz hz') (by decide)
theorem OwxN.keepTy {B : Nat} {w w' : World} {v : Value} {nss : List (List ByteArray)} (h : OwxN B w v nss) (hb : ∀ j, B ≤ j → j < w.heap.size → (∃ t zs, BlkV w j t zs ∧ (t = 46 ∨ t = 9)) → w'.heap[j]? = w.heap[j]?) : OwxN B w' v nss := by
  obtain ⟨xs, h1, h2⟩ := h
  refine ⟨xs, ?_, fun i hi => ?_⟩
  · rcases h1 with h1 | ⟨g, e, hg, hblk, hn⟩
    · exact .inl h1
    · exact .inr ⟨g, e, hg, hblk.same (hb g hg hblk.lt ⟨_, _, hblk, .inl rfl⟩), hn⟩
  · obtain ⟨s, e1, e2⟩ := h2 i hi
    exact ⟨s, e1, e2.keep (fun j h1 h2 ⟨zs, hz⟩ => hb j h1 h2 ⟨_, zs, hz, .inr rfl⟩)⟩
theorem DOwx.mono {B B' : Nat} {w : World} {x : DA} {d : Dat} (h : DOwx B w x d) (hB : B' ≤ B) : DOwx B' w x d := ⟨h.1.mono hB, h.2.1.mono hB, h.2.2.1.mono hB, h.2.2.2.mono hB⟩
theorem DOwx.ret4 {B B' : Nat} {W : World} {b : Nat} {x : DA} {d : Dat} (h : DOwx B W x d) (hb : b < B) (hB : B' ≤ B) : DOwx B' (set4 W b x) x d := (h.keep (fun j hj _ => set4_off W b x j (by omega))).mono hB
theorem DOwx.stays {B : Nat} {w w' : World} {x : DA} {d : Dat} (h : DOwx B w x d) (hb : Below w.heap.size w w') : DOwx B w' x d := h.keep fun j _ hj => hb.block j hj
/-- Three lists copied, and a box for them. -/
structure CqS (W1 W : World) (D : Nat) (tu tt tb : Sl) (d : Dat) : Prop where
  u : UOwn W1.heap.size W tu d.us
  t : Owx1 W1.heap.size W tt d.ts
  b : BOwn W1.heap.size W tb d.raw
  blk : DBlk W D ⟨⟨none, 0, 0⟩, tu, tt, tb⟩
  bel : Below W1.heap.size W1 W
  low : W1.heap.size ≤ D
theorem cqs_new {W1 W : World} {tu tt tb : Sl} {d : Dat} (h1 : UOwn W1.heap.size W tu d.us) (h2 : Owx1 W1.heap.size W tt d.ts) (h3 : BOwn W1.heap.size W tb d.raw) (hb : Below W1.heap.size W1 W) :
    CqS W1 (W.alloc (.cells #[.slice none 0 0, .slice tu.a tu.n tu.c, .slice tt.a tt.n tt.c, .slice tb.a tb.n tb.c] 77)) W.heap.size tu tt tb d := by
  have hn := new_below W (.cells #[.slice none 0 0, .slice tu.a tu.n tu.c, .slice tt.a tt.n tt.c, .slice tb.a tb.n tb.c] 77)
  exact ⟨h1.stays hn, h2.stays hn, h3.stays hn, heap_alloc_new _ _, hb.trans (hn.mono hb.size), hb.size⟩
theorem cqs_set {W1 W : World} {D : Nat} {y : DA} {tu tt tb : Sl} {d : Dat} (h1 : UOwn W1.heap.size W tu d.us) (h2 : Owx1 W1.heap.size W tt d.ts) (h3 : BOwn W1.heap.size W tb d.raw) (hb : Below W1.heap.size W1 W) (hD : DBlk W D y) (hl : W1.heap.size ≤ D) :
    CqS W1 ((((W.setCell ⟨D, 0, none⟩ (.slice none 0 0)).setCell ⟨D, 1, none⟩ (.slice tu.a tu.n tu.c)).setCell ⟨D, 2, none⟩ (.slice tt.a tt.n tt.c)).setCell ⟨D, 3, none⟩ (.slice tb.a tb.n tb.c)) D tu tt tb d := by
  have e := set4_off W D ⟨⟨none, 0, 0⟩, tu, tt, tb⟩
  refine ⟨h1.keepTy ?_, h2.keep ?_, h3.keepD hD e, set4_blk hD ⟨⟨none, 0, 0⟩, tu, tt, tb⟩, ?_, hl⟩
  · rintro j _ _ ⟨zs, hz⟩
    exact e j (hD.ne hz (by decide))
  · rintro j _ _ ⟨zs, hz⟩
    exact e j (hD.ne hz (by decide))
  · exact (((hb.setCell (p := ⟨D, 0, none⟩) hl _).setCell (p := ⟨D, 1, none⟩) hl _).setCell (p := ⟨D, 2, none⟩) hl _).setCell (p := ⟨D, 3, none⟩) hl _
/-- A name appended, as a step of a region. -/
theorem sq_n1 {w : World} {ops : Array Oper} {o : Oper} {a : Act} {K : Act → World → Prop} {Q : Exit → Act → World → Prop} {E : Prop} (hgd : o.guard = none) (s x : Operand)
    (ho : o.op = .call { callee := .builtin .append, args := #[s, x], argTypes := #[74, 74] }) (B : Nat) (s1 : Sl) (nss : List (List ByteArray)) (hs : a.eval s = .slice s1.a s1.n s1.c) (hown : OwxN B w (.slice s1.a s1.n s1.c) nss)
    (ao : Addr) (hx : a.eval x = .slice (some ao) 1 1) (t : Sl) (nm : List ByteArray) (hr : RdV w (some ao) [.slice t.a t.n t.c]) (ht : Owx1 B w t nm) (hn : nss.length ≤ 5864062014700) (hB : B ≤ w.heap.size)
    (h : ∀ (t' : Sl) w', Hid (OwxN B w' (.slice t'.a t'.n t'.c) (nss ++ [nm])) → Hid (∃ o, w.grownBy w' o ∧ ∀ j, o = some j → B ≤ j ∧ ∃ zs, BlkV w j 46 zs) → K (a.put o.dst (.slice t'.a t'.n t'.c)) w') :
    if Region.wanted o (yielded ops a.tmps) = true then Oper.wp Try.prog o a w K Q else E := by
  obtain ⟨xs, h1, h2⟩ := hown
  refine step_append_row tyNs hgd s x 74 ho B _ nss.length xs hs h1 _ 1 [.slice t.a t.n t.c] hx (src_of Try.underlying74 hr rfl (by intro u hu; simp at hu; subst hu; rfl)) (by omega) (by simp only [maxLen]; omega) hB ?_
  intro v' w' xs' q1 q2 q3 q4
  obtain ⟨ao', rfl, _⟩ := q1.out.shape
  have hle := q1.out.le
  have hB1 : ∀ j, Value.ownBlock (.slice s1.a s1.n s1.c) = some j → B ≤ j ∧ ∃ zs, BlkV w j 46 zs := by
    intro j hj
    refine ⟨h1.lt j hj, ?_⟩
    rcases h1 with ⟨e3, _⟩ | ⟨g, e3, _, hblk, _⟩
    · rw [e3] at hj; cases hj
    · rw [e3] at hj
      have e4 : g = j := (Option.some.inj hj)
      subst e4
      exact ⟨_, hblk⟩
  have hkb : ∀ j, B ≤ j → j < w.heap.size → (∃ zs, BlkV w j 9 zs) → w'.heap[j]? = w.heap[j]? := by
    rintro j _ hj ⟨zs, hz⟩
    refine q3.out.block j hj (fun e => ?_)
    obtain ⟨_, zs', hz'⟩ := hB1 j e.symm
    exact absurd (blk_ty hz hz') (by decide)
  have hx' : xs'.take (nss.length + 1) = xs.take nss.length ++ [.slice t.a t.n t.c] := q2.out
  have hl : (xs.take nss.length).length = nss.length := by have := h1.le.1; rw [List.length_take]; omega
  refine h ⟨ao', nss.length + 1, xs'.length⟩ w' ⟨xs', by simpa using q1.out, fun i hi => ?_⟩ ⟨_, q3.out, hB1⟩
  rw [List.length_append, List.length_singleton] at hi
  by_cases hlt : i < nss.length
  · obtain ⟨s', e1, e2⟩ := h2 i hlt
    refine ⟨s', ?_, ?_⟩
    · have h3 : (xs'.take (nss.length + 1))[i]? = (xs.take nss.length ++ [.slice t.a t.n t.c])[i]? := by rw [hx']
      rw [List.getElem?_take_of_lt (by omega), List.getElem?_append_left (by omega), List.getElem?_take_of_lt hlt, e1] at h3
      exact h3
    · rw [List.getElem_append_left hlt]
      exact e2.keep hkb
  · have hie : i = nss.length := by omega
    subst hie
    refine ⟨t, ?_, ?_⟩
    · have h3 : (xs'.take (nss.length + 1))[nss.length]? = (xs.take nss.length ++ [.slice t.a t.n t.c])[nss.length]? := by rw [hx']
      rw [List.getElem?_take_of_lt (by omega), List.getElem?_append_right (by omega), hl] at h3
      simpa using h3
    · rw [List.getElem_append_right (by omega)]
      simp
      exact ht.keep hkb
/-- Copied, with some of the names. -/
structure CqN (W1 W : World) (D : Nat) (x : DA) (d : Dat) : Prop where
  own : DOwx W1.heap.size W x d
  blk : DBlk W D x
  bel : Below W1.heap.size W1 W
  low : W1.heap.size ≤ D
theorem CqS.start {W1 W : World} {D : Nat} {tu tt tb : Sl} {d : Dat} (h : CqS W1 W D tu tt tb d) : CqN W1 W D ⟨⟨none, 0, 0⟩, tu, tt, tb⟩ ⟨d.ns.take 0, d.us, d.ts, d.raw⟩ := ⟨⟨OwxN.nil _ _, h.u, h.t, h.b⟩, h.blk, h.bel, h.low⟩
theorem CqN.go {W1 W W' : World} {D : Nat} {x : DA} {d : Dat} (h : CqN W1 W D x d) (hb : Below W.heap.size W W') : CqN W1 W' D x d := ⟨h.own.stays hb, h.blk.same (hb.block D h.blk.lt), h.bel.trans (hb.mono h.bel.size), h.low⟩
theorem DOwx.set0 {B : Nat} {W : World} {D : Nat} {y x : DA} {d : Dat} (h : DOwx B W x d) (hD : DBlk W D y) (v : Value) : DOwx B (W.setCell ⟨D, 0, none⟩ v) x d := by
  have e : ∀ j, j ≠ D → (W.setCell ⟨D, 0, none⟩ v).heap[j]? = W.heap[j]? := fun j hj => Below.heap_setCell _ _ _ j hj
  refine ⟨h.1.keepTy ?_, h.2.1.keepTy ?_, h.2.2.1.keep ?_, h.2.2.2.keepD hD e⟩
  · rintro j _ _ ⟨t, zs, hz, ht⟩
    exact e j (hD.ne hz (by rcases ht with rfl | rfl <;> decide))
  · rintro j _ _ ⟨zs, hz⟩
    exact e j (hD.ne hz (by decide))
  · rintro j _ _ ⟨zs, hz⟩
    exact e j (hD.ne hz (by decide))
theorem CqN.step {W1 W W' : World} {D : Nat} {x : DA} {d : Dat} {t' : Sl} {nss : List (List ByteArray)} (h : CqN W1 W D x d) (ho : OwxN W1.heap.size W' (.slice t'.a t'.n t'.c) nss) (hg : ∃ o, W.grownBy W' o ∧ ∀ j, o = some j → W1.heap.size ≤ j ∧ ∃ zs, BlkV W j 46 zs) :
    CqN W1 (W'.setCell ⟨D, 0, none⟩ (.slice t'.a t'.n t'.c)) D ⟨t', x.p2, x.p3, x.p4⟩ ⟨nss, d.us, d.ts, d.raw⟩ := by
  have hD := h.blk.offTy hg
  have hown : DOwx W1.heap.size W' ⟨t', x.p2, x.p3, x.p4⟩ ⟨nss, d.us, d.ts, d.raw⟩ := ⟨ho, h.own.2.1.offTy hg, h.own.2.2.1.offTy hg, h.own.2.2.2.offTy hg⟩
  refine ⟨hown.set0 hD _, hD.set0 t', ?_, h.low⟩
  obtain ⟨o, g1, g2⟩ := hg
  have hb : Below W1.heap.size W1 W' := ⟨g1.os.trans h.bel.os, g1.tape.trans h.bel.tape, g1.output.trans h.bel.output, Nat.le_trans h.bel.size g1.size, fun j hj => (g1.block j (Nat.lt_of_lt_of_le hj h.bel.size) (fun e => by have := (g2 j e.symm).1; omega)).trans (h.bel.block j hj)⟩
  exact hb.setCell (p := ⟨D, 0, none⟩) h.low _
end Go.Proofs.Ytmlccnpondemiaa
namespace Go.Proofs.Ytmlccnpondemiaa
open Go.ChangeShapes Go.WideShapes Go.ChangeAt Go.RowKit
set_option linter.unusedVariables false
set_option linter.unusedSimpArgs false
/-- Where the walk stands: both lie in blocks of their own, and can be read. -/
def SdSt (w W : World) (b : Nat) (x y : DA) (d : Dat) : Prop := DBox W b x ∧ DBox W (b + 1) y ∧ DRd W x d ∧ DRd W y d ∧ Below w.heap.size w W
theorem SdSt.go {w W W' : World} {b : Nat} {x y : DA} {d : Dat} (h : SdSt w W b x y d) (hb : Below W.heap.size W W') : SdSt w W' b x y d :=
  ⟨h.1.below hb, h.2.1.below hb, h.2.2.1.below hb, h.2.2.2.1.below hb, h.2.2.2.2.trans (hb.mono h.2.2.2.2.size)⟩
set_option maxRecDepth 100000 in
set_option maxHeartbeats 2000000 in
theorem samedata_yes (x y : DA) (d : Dat) (w : World) (hx : DRd w x d) (hy : DRd w y d) :
    Calls Try.prog 53 #[.agg #[.slice x.p1.a x.p1.n x.p1.c, .slice x.p2.a x.p2.n x.p2.c, .slice x.p3.a x.p3.n x.p3.c, .slice x.p4.a x.p4.n x.p4.c], .agg #[.slice y.p1.a y.p1.n y.p1.c, .slice y.p2.a y.p2.n y.p2.c, .slice y.p3.a y.p3.n y.p3.c, .slice y.p4.a y.p4.n y.p4.c]] w fun e w' => e = .returned (.bool true) ∧ Hid (Below w.heap.size w w') := by
  have hb1 : Below w.heap.size w (w.alloc (.cells #[.slice x.p1.a x.p1.n x.p1.c, .slice x.p2.a x.p2.n x.p2.c, .slice x.p3.a x.p3.n x.p3.c, .slice x.p4.a x.p4.n x.p4.c] 77)) := (Below.refl _ _).alloc (Nat.le_refl _) _
  have HX := DBox.new w x
  have hx1 := hx.below hb1
  have hy1 := hy.below hb1
  have e1 : y.p1.n = x.p1.n := by rw [← hx.h1.len, ← hy.h1.len]
  have e2 : y.p2.n = x.p2.n := by rw [← hx.h2.len, ← hy.h2.len]
  have e3 : y.p3.n = x.p3.n := by rw [← hx.h3.len, ← hy.h3.len]
  have e4 : y.p4.n = x.p4.n := by rw [← hx.h4.len, ← hy.h4.len]
  obtain ⟨W0, hW0⟩ : ∃ W, W = w.alloc (.cells #[.slice x.p1.a x.p1.n x.p1.c, .slice x.p2.a x.p2.n x.p2.c, .slice x.p3.a x.p3.n x.p3.c, .slice x.p4.a x.p4.n x.p4.c] 77) := ⟨_, rfl⟩
  have hs0 : W0.heap.size = w.heap.size + 1 := by rw [hW0]; simp
  rw [← hW0] at hb1 HX hx1 hy1
  have hb2 : Below W0.heap.size W0 (W0.alloc (.cells #[.slice y.p1.a y.p1.n y.p1.c, .slice y.p2.a y.p2.n y.p2.c, .slice y.p3.a y.p3.n y.p3.c, .slice y.p4.a y.p4.n y.p4.c] 77)) := (Below.refl _ _).alloc (Nat.le_refl _) _
  have HY := DBox.new W0 y
  have H : Hid (∃ b c, b = w.heap.size ∧ c = w.heap.size + 1 ∧ DBox (W0.alloc (.cells #[.slice y.p1.a y.p1.n y.p1.c, .slice y.p2.a y.p2.n y.p2.c, .slice y.p3.a y.p3.n y.p3.c, .slice y.p4.a y.p4.n y.p4.c] 77)) b x ∧ DBox (W0.alloc (.cells #[.slice y.p1.a y.p1.n y.p1.c, .slice y.p2.a y.p2.n y.p2.c, .slice y.p3.a y.p3.n y.p3.c, .slice y.p4.a y.p4.n y.p4.c] 77)) c y ∧
      DRd (W0.alloc (.cells #[.slice y.p1.a y.p1.n y.p1.c, .slice y.p2.a y.p2.n y.p2.c, .slice y.p3.a y.p3.n y.p3.c, .slice y.p4.a y.p4.n y.p4.c] 77)) x d ∧ DRd (W0.alloc (.cells #[.slice y.p1.a y.p1.n y.p1.c, .slice y.p2.a y.p2.n y.p2.c, .slice y.p3.a y.p3.n y.p3.c, .slice y.p4.a y.p4.n y.p4.c] 77)) y d ∧ Below w.heap.size w (W0.alloc (.cells #[.slice y.p1.a y.p1.n y.p1.c, .slice y.p2.a y.p2.n y.p2.c, .slice y.p3.a y.p3.n y.p3.c, .slice y.p4.a y.p4.n y.p4.c] 77))) :=
    ⟨w.heap.size, w.heap.size + 1, rfl, rfl, HX.below hb2, by rw [← hs0]; exact HY, hx1.below hb2, hy1.below hb2, hb1.trans (hb2.mono hb1.size)⟩
  clear hx hy hb1 HX hx1 hy1 hb2 HY hs0
  rw [hW0] at H
  clear hW0 W0
  obtain ⟨⟨a1, n1, k1⟩, ⟨a2, n2, k2⟩, ⟨a3, n3, k3⟩, ⟨a4, n4, k4⟩⟩ := x
  obtain ⟨⟨b1, m1, j1⟩, ⟨b2, m2, j2⟩, ⟨b3, m3, j3⟩, ⟨b4, m4, j4⟩⟩ := y
  simp only at e1 e2 e3 e4 H ⊢
  subst e1 e2 e3 e4
  go_enter Try.func53, Try.ntmps53
  go_upto_region 1 with fail
  generalize ((w.alloc (.cells #[.slice a1 m1 k1, .slice a2 m2 k2, .slice a3 m3 k3, .slice a4 m4 k4] 77)).alloc (.cells #[.slice b1 m1 j1, .slice b2 m2 j2, .slice b3 m3 j3, .slice b4 m4 j4] 77)) = W1 at *
  obtain ⟨b, b', hb, hb', X, Y, DX, DY, BB⟩ := H.out
  clear H
  rw [← hb]
  rw [← hb] at hb'
  subst hb'
  have Hb : Hid (b = w.heap.size) := hb
  clear hb
  have H : Hid (SdSt w W1 b ⟨⟨a1, m1, k1⟩, ⟨a2, m2, k2⟩, ⟨a3, m3, k3⟩, ⟨a4, m4, k4⟩⟩ ⟨⟨b1, m1, j1⟩, ⟨b2, m2, j2⟩, ⟨b3, m3, j3⟩, ⟨b4, m4, j4⟩⟩ d) := ⟨X, Y, DX, DY, BB⟩
  clear X Y DX DY BB
  have x0 := H.out.1.1
  have x1 := H.out.1.2.1
  have x2 := H.out.1.2.2.1
  have y0 := H.out.2.1.1
  have y1 := H.out.2.1.2.1
  have y2 := H.out.2.1.2.2.1
  simp only at x0 x1 x2 y0 y1 y2
  go_wp2_with fail
  refine (sameT_yes a3 b3 m3 k3 j3 d.ts W1 H.out.2.2.1.h3.rd H.out.2.2.2.1.h3.rd H.out.2.2.1.h3.len (Nat.le_trans H.out.2.2.1.h3.cap.1 H.out.2.2.1.h3.cap.2)).mono ?_
  rintro e W2 ⟨rfl, H2⟩
  have H' : Hid (SdSt w W2 b ⟨⟨a1, m1, k1⟩, ⟨a2, m2, k2⟩, ⟨a3, m3, k3⟩, ⟨a4, m4, k4⟩⟩ ⟨⟨b1, m1, j1⟩, ⟨b2, m2, j2⟩, ⟨b3, m3, j3⟩, ⟨b4, m4, j4⟩⟩ d) := H.out.go H2.out
  clear H2 H x0 x1 x2 y0 y1 y2
  have x3 := H'.out.1.2.2.2.1
  have y3 := H'.out.2.1.2.2.2.1
  simp only at x3 y3
  go_wp2_with fail
  refine (same_yes a4 b4 m4 k4 j4 d.raw W2 H'.out.2.2.1.h4.rd H'.out.2.2.2.1.h4.rd H'.out.2.2.1.h4.len).mono ?_
  rintro e W3 ⟨rfl, rfl⟩
  clear x3 y3
  have hn1 : d.ns.length = m1 := H'.out.2.2.1.h1.len
  have hn2 : d.us.length = m2 := H'.out.2.2.1.h2.len
  have hm1 : m1 ≤ 9223372036854775807 := Nat.le_trans H'.out.2.2.1.h1.cap.1 H'.out.2.2.1.h1.cap.2
  have hm2 : m2 ≤ 9223372036854775807 := Nat.le_trans H'.out.2.2.1.h2.cap.1 H'.out.2.2.1.h2.cap.2
  have HN : Hid (d.ns.length = m1 ∧ d.us.length = m2) := ⟨hn1, hn2⟩
  clear hn1 hn2
  go_wp2_with fail
  go_loopw [5] (fun v wr => ∃ k : Nat, k ≤ m1 ∧ v = .int .i64 (k : Int) ∧ Hid (SdSt w wr b ⟨⟨a1, m1, k1⟩, ⟨a2, m2, k2⟩, ⟨a3, m3, k3⟩, ⟨a4, m4, k4⟩⟩ ⟨⟨b1, m1, j1⟩, ⟨b2, m2, j2⟩, ⟨b3, m3, j3⟩, ⟨b4, m4, j4⟩⟩ d)) (fun v _ => m1 - (intOf v).toNat)
  case atStart => exact ⟨0, Nat.zero_le _, rfl, H'⟩
  case round =>
    obtain ⟨k, hk, rfl, H⟩ := hrel
    clear H'
    have x0 := H.out.1.1
    have y0 := H.out.2.1.1
    simp only at x0 y0
    by_cases hlt : k < m1
    · have hlt' : (k : Int) < (m1 : Int) := by omega
      have hki : k < d.ns.length := by rw [HN.out.1]; exact hlt
      obtain ⟨B1, o1, ha1, hl1, z1, hz1, hr1⟩ := H.out.2.2.1.h1.at k hki
      obtain ⟨B2, o2, ha2, hl2, z2, hz2, hr2⟩ := H.out.2.2.2.1.h1.at k hki
      simp only at ha1 ha2
      subst ha1 ha2
      have ez : z2.n = z1.n := by rw [← hr1.len, ← hr2.len]
      rw [ez] at hz2
      have KS : Hid (∀ W', Below wr.heap.size wr W' → Calls Try.prog 52 #[.slice z1.a z1.n z1.c, .slice z2.a z1.n z2.c] W' fun e w' => e = .returned (.bool true) ∧ Hid (Below W'.heap.size W' w')) :=
        fun W' hb => sameN_yes z1.a z2.a z1.n z1.c z2.c d.ns[k] W' (hr1.rd.below hb) (hr2.rd.below hb) hr1.len (Nat.le_trans hr1.cap.1 hr1.cap.2)
      have HBx : Hid (Below wr.heap.size wr wr.drew) := (Below.refl _ _).drew
      have hbx := H.out.1.2.2.2.2
      have hby := H.out.2.1.2.2.2.2
      clear hr1 hr2 ez
      generalize z1.a = za1 at *
      generalize z1.n = zn1 at *
      generalize z1.c = zc1 at *
      generalize z2.a = za2 at *
      generalize z2.c = zc2 at *
      go_wp2_with fail
      go_region_held3 (fun W => W.cell? ⟨b, 0, none⟩ = some (.slice (some ⟨B1, o1, none⟩) m1 k1) ∧ W.cell? ⟨b + 1, 0, none⟩ = some (.slice (some ⟨B2, o2, none⟩) m1 j1) ∧ W.cell? ⟨B1, o1 + k, none⟩ = some (.slice za1 zn1 zc1) ∧ W.cell? ⟨B2, o2 + k, none⟩ = some (.slice za2 zn1 zc2)) (go_keep) (first
        | (go_at_call 52; refine (KS.out _ HBx.out).mono ?_; rintro e wy ⟨rfl, HY⟩; have q0 : wy.cell? ⟨b, 0, none⟩ = some (.slice (some ⟨B1, o1, none⟩) m1 k1) := (HY.out.cell (p := ⟨b, 0, none⟩) hbx).trans x0; have q1 : wy.cell? ⟨b + 1, 0, none⟩ = some (.slice (some ⟨B2, o2, none⟩) m1 j1) := (HY.out.cell (p := ⟨b + 1, 0, none⟩) hby).trans y0; have q2 : wy.cell? ⟨B1, o1 + k, none⟩ = some (.slice za1 zn1 zc1) := (HY.out.cell (p := ⟨B1, o1 + k, none⟩) hl1).trans hz1; have q3 : wy.cell? ⟨B2, o2 + k, none⟩ = some (.slice za2 zn1 zc2) := (HY.out.cell (p := ⟨B2, o2 + k, none⟩) hl2).trans hz2))
      have H2 : Hid (SdSt w wy b ⟨⟨some ⟨B1, o1, none⟩, m1, k1⟩, ⟨a2, m2, k2⟩, ⟨a3, m3, k3⟩, ⟨a4, m4, k4⟩⟩ ⟨⟨some ⟨B2, o2, none⟩, m1, j1⟩, ⟨b2, m2, j2⟩, ⟨b3, m3, j3⟩, ⟨b4, m4, j4⟩⟩ d) := H.out.go (HBx.out.trans HY.out)
      clear q0 q1 q2 q3 x0 y0 hz1 hz2 HY KS H HBx
      go_wp2_with fail
      exact ⟨⟨k + 1, by omega, by go_num, H2⟩, by simp [intOf]; omega⟩
    · have hge : ¬ (k : Int) < (m1 : Int) := by omega
      go_wp2_with fail
      obtain ⟨wz, hz⟩ : ∃ z, z = wr := ⟨_, rfl⟩
      subst hz
      clear x0 y0
      go_loopw [6] (fun v wr => ∃ k : Nat, k ≤ m2 ∧ v = .int .i64 (k : Int) ∧ Hid (SdSt w wr b ⟨⟨a1, m1, k1⟩, ⟨a2, m2, k2⟩, ⟨a3, m3, k3⟩, ⟨a4, m4, k4⟩⟩ ⟨⟨b1, m1, j1⟩, ⟨b2, m2, j2⟩, ⟨b3, m3, j3⟩, ⟨b4, m4, j4⟩⟩ d)) (fun v _ => m2 - (intOf v).toNat)
      case atStart => exact ⟨0, Nat.zero_le _, rfl, H⟩
      case round =>
        obtain ⟨i, hi, rfl, H'⟩ := hrel
        clear H
        have x1 := H'.out.1.2.1
        have y1 := H'.out.2.1.2.1
        simp only at x1 y1
        by_cases hit : i < m2
        · have hit' : (i : Int) < (m2 : Int) := by omega
          have hii : i < d.us.length := by rw [HN.out.2]; exact hit
          obtain ⟨B1, o1, ha1, hl1, hz1⟩ := H'.out.2.2.1.h2.at i hii
          obtain ⟨B2, o2, ha2, hl2, hz2⟩ := H'.out.2.2.2.1.h2.at i hii
          simp only at ha1 ha2
          subst ha1 ha2
          generalize d.us[i] = u at *
          go_wp2_with fail
          go_quiet (fail)
          have H2 : Hid (SdSt w (wr.drewN nq) b ⟨⟨a1, m1, k1⟩, ⟨some ⟨B1, o1, none⟩, m2, k2⟩, ⟨a3, m3, k3⟩, ⟨a4, m4, k4⟩⟩ ⟨⟨b1, m1, j1⟩, ⟨some ⟨B2, o2, none⟩, m2, j2⟩, ⟨b3, m3, j3⟩, ⟨b4, m4, j4⟩⟩ d) := H'.out.go ⟨rfl, rfl, rfl, Nat.le_refl _, fun _ _ => rfl⟩
          clear x1 y1 hz1 hz2 H'
          generalize wr.drewN nq = Wq at *
          go_wp2_with fail
          exact ⟨⟨i + 1, by omega, by go_num, H2⟩, by simp [intOf]; omega⟩
        · have hige : ¬ (i : Int) < (m2 : Int) := by omega
          go_wp2_with fail
          go_ret
          exact ⟨rfl, H'.out.2.2.2.2⟩
end Go.Proofs.Ytmlccnpondemiaa
namespace Go.Proofs.Ytmlccnpondemiaa
open Go.ChangeShapes Go.WideShapes Go.ChangeAt Go.RowKit
set_option linter.unusedVariables false
set_option linter.unusedSimpArgs false
/-- What the reach alone says of data. -/
structure Wb (d : Dat) : Prop where
  nn : d.ns.length ≤ 5864062014700
  nl : ∀ x ∈ d.ns, x.length ≤ 8796093022000
  un : d.us.length ≤ 35184372088832
  tn : d.ts.length ≤ 8796093022000
  tz : ∀ x ∈ d.ts, x.size ≤ 140737488355328
  r : d.raw.length ≤ 140737488355328
end Go.Proofs.Ytmlccnpondemiaa
namespace Go.Proofs.Ytmlccnpondemiaa
open Go.ChangeShapes Go.WideShapes Go.ChangeAt Go.RowKit
set_option linter.unusedVariables false
set_option linter.unusedSimpArgs false
theorem ownsRow_stays {B e k n : Nat} {v : Value} {xs : List Value} {w w' : World} (h : w.ownsRow B e k v n xs) (hb : Below w.heap.size w w') : w'.ownsRow B e k v n xs :=
  h.kept (row := none) ⟨hb.os, hb.tape, hb.output, hb.size, fun j hj _ => hb.block j hj⟩ (by cases v.ownBlock with | none => exact .inl rfl | some j => exact .inr (by simp))
theorem ownsRow_low {B B' e k n : Nat} {v : Value} {xs : List Value} {w : World} (h : w.ownsRow B e k v n xs) (hB : B' ≤ B) : w.ownsRow B' e k v n xs :=
  ⟨h.1, h.2.elim .inl (fun ⟨g, cap, cur, e, hb, r⟩ => .inr ⟨g, cap, cur, e, Nat.le_trans hB hb, r⟩)⟩
/-- A record. -/
structure Rec where
  ow : List ByteArray
  t : Nat
  cl : Nat
  tt : Nat
  d : Dat
/-- Where a record's lists are. -/
structure RA where
  o : Sl
  d : DA
def recCells (x : RA) (r : Rec) : List Value := [.slice x.o.a x.o.n x.o.c, .int .u16 r.t, .int .u16 r.cl, .int .u32 r.tt, .slice x.d.p1.a x.d.p1.n x.d.p1.c, .slice x.d.p2.a x.d.p2.n x.d.p2.c, .slice x.d.p3.a x.d.p3.n x.d.p3.c, .slice x.d.p4.a x.d.p4.n x.d.p4.c]
def cellsR (ps : List (RA × Rec)) : List Value := ps.flatMap fun p => recCells p.1 p.2
theorem cellsR_at (ps : List (RA × Rec)) (k : Nat) (h : k < ps.length) (j : Nat) (hj : j < 8) : (cellsR ps)[k * 8 + j]? = (recCells ps[k].1 ps[k].2)[j]? := by
  induction ps generalizing k with
  | nil => simp at h
  | cons p ws ih =>
    have hc : cellsR (p :: ws) = recCells p.1 p.2 ++ cellsR ws := by simp [cellsR]
    have h8 : (recCells p.1 p.2).length = 8 := rfl
    rw [hc]
    cases k with
    | zero => rw [List.getElem?_append_left (by rw [h8]; omega)]; simp
    | succ k =>
      have := ih k (by simpa using h)
      rw [List.getElem?_append_right (by rw [h8]; omega), h8, show (k + 1) * 8 + j - 8 = k * 8 + j by omega, this]
      simp
theorem cellsR_app (a b : List (RA × Rec)) : cellsR (a ++ b) = cellsR a ++ cellsR b := by simp [cellsR]
def RRd (w : World) (x : RA) (r : Rec) : Prop := TRd w x.o r.ow ∧ DRd w x.d r.d
theorem RRd.below {w w' : World} {x : RA} {r : Rec} (h : RRd w x r) (hb : Below w.heap.size w w') : RRd w' x r := ⟨h.1.below hb, h.2.below hb⟩
def ROwx (B : Nat) (w : World) (x : RA) (r : Rec) : Prop := Owx1 B w x.o r.ow ∧ DOwx B w x.d r.d
/-- A list of records that can be read: eight cells each. -/
def RdR (w : World) (a : Option Addr) (rs : List Rec) : Prop :=
  rs = [] ∨ ∃ b o, a = some ⟨b, o, none⟩ ∧ b < w.heap.size ∧ ∀ i (h : i < rs.length), ∃ x : RA, (∀ j (hj : j < 8), w.cell? ⟨b, o + i * 8 + j, none⟩ = (recCells x rs[i])[j]?) ∧ RRd w x rs[i]
theorem RdR.below {w w' : World} {a : Option Addr} {rs : List Rec} (h : RdR w a rs) (hb : Below w.heap.size w w') : RdR w' a rs := by
  rcases h with h | ⟨b, o, h1, h2, h3⟩
  · exact .inl h
  · refine .inr ⟨b, o, h1, Nat.lt_of_lt_of_le h2 hb.size, fun i hi => ?_⟩
    obtain ⟨x, e1, e5⟩ := h3 i hi
    exact ⟨x, fun j hj => (hb.cell (p := ⟨b, o + i * 8 + j, none⟩) h2).trans (e1 j hj), e5.below hb⟩
theorem RdR.at {w : World} {a : Option Addr} {rs : List Rec} (h : RdR w a rs) (i : Nat) (hi : i < rs.length) : ∃ b o, a = some ⟨b, o, none⟩ ∧ b < w.heap.size ∧ ∃ x : RA, (∀ j (hj : j < 8), w.cell? ⟨b, o + i * 8 + j, none⟩ = (recCells x rs[i])[j]?) ∧ RRd w x rs[i] := by
  rcases h with h | ⟨b, o, h1, h2, h3⟩
  · subst h; simp at hi
  · exact ⟨b, o, h1, h2, h3 i hi⟩
/-- A record that can be read as long as no other block than one is written. -/
def RfR (B : Nat) (w : World) (g : Option Nat) (x : RA) (r : Rec) : Prop :=
  ∀ w' : World, w.heap.size ≤ w'.heap.size → (∀ j, j < w.heap.size → B ≤ j → some j ≠ g → w'.heap[j]? = w.heap[j]?) → RRd w' x r
theorem RfR.of {B B' : Nat} {w : World} {g : Option Nat} {x : RA} {r : Rec} (h : ROwx B' w x r) (hB : B ≤ B') (hg : ∀ k, g = some k → k < B') : RfR B w g x r := by
  intro w' hs hb
  have hk : ∀ j, B' ≤ j → j < w.heap.size → w'.heap[j]? = w.heap[j]? := fun j h1 h2 => hb j h2 (by omega) (fun e => by have := hg j e.symm; omega)
  exact ⟨(h.1.keep (fun j h1 h2 _ => hk j h1 h2)).rd, (h.2.keep hk).rd⟩
theorem RfR.go {B : Nat} {w w' : World} {g g' : Option Nat} {x : RA} {r : Rec} (h : RfR B w g x r) (hs : w.heap.size ≤ w'.heap.size) (hb : ∀ j, j < w.heap.size → B ≤ j → some j ≠ g → w'.heap[j]? = w.heap[j]?) (hg : ∀ j, j < w.heap.size → some j ≠ g → some j ≠ g') : RfR B w' g' x r := by
  intro w2 hs2 hb2
  exact h w2 (Nat.le_trans hs hs2) (fun j h1 h2 h3 => (hb2 j (by omega) h2 (hg j h1 h3)).trans (hb j h1 h2 h3))
/-- A list of records of one's own. -/
def OwR (B : Nat) (w : World) (v : Value) (rs : List Rec) : Prop :=
  ∃ ps : List (RA × Rec), ps.map (·.2) = rs ∧ w.ownsRow B 79 8 v ps.length (cellsR ps) ∧ ∀ p ∈ ps, RfR B w v.ownBlock p.1 p.2
theorem OwR.stays {B : Nat} {w w' : World} {v : Value} {rs : List Rec} (h : OwR B w v rs) (hb : Below w.heap.size w w') : OwR B w' v rs := by
  obtain ⟨ps, h1, h2, h3⟩ := h
  exact ⟨ps, h1, ownsRow_stays h2 hb, fun p hp => (h3 p hp).go hb.size (fun j hj _ _ => hb.block j hj) (fun j _ h => h)⟩
theorem OwR.mono {B B' : Nat} {w : World} {v : Value} {rs : List Rec} (h : OwR B w v rs) (hB : B' ≤ B) : OwR B' w v rs := by
  obtain ⟨ps, h1, h2, h3⟩ := h
  exact ⟨ps, h1, ownsRow_low h2 hB, fun p hp w' hs hb => h3 p hp w' hs (fun j e1 e2 e3 => hb j e1 (by omega) e3)⟩
theorem OwR.rd {B : Nat} {w : World} {v : Value} {rs : List Rec} (h : OwR B w v rs) : ∃ a c, v = .slice a rs.length c ∧ RdR w a rs ∧ rs.length ≤ c ∧ c ≤ 9223372036854775807 ∧ (a = none → c = 0) := by
  obtain ⟨ps, rfl, h2, h3⟩ := h
  have hpl : (ps.map (·.2)).length = ps.length := by simp
  rw [hpl]
  rcases h2.2 with ⟨rfl, h0⟩ | ⟨g, cap, cur, rfl, hb, hg, k1, k2, k3, k4⟩
  · have : ps = [] := List.length_eq_zero_iff.1 h0
    subst this
    exact ⟨none, 0, rfl, .inl rfl, by simp, by omega, fun _ => rfl⟩
  · refine ⟨_, cap, rfl, .inr ⟨g, 0, rfl, (Array.getElem?_eq_some_iff.1 hg).1, fun i hi => ?_⟩, k1, by simpa only [maxLen] using k2, by simp⟩
    have hi' : i < ps.length := by simpa using hi
    have ad : ∀ j, (⟨g, 0, none⟩ : Addr).add j = ⟨g, 0 + j, none⟩ := fun j => by unfold Addr.add; split <;> simp_all
    have hgi : (ps.map (·.2))[i] = ps[i].2 := by simp
    refine ⟨ps[i].1, fun j hj => ?_, ?_⟩
    · rw [hgi]
      have e1 := cellsR_at ps i hi' j hj
      have hlt : j < (recCells ps[i].1 ps[i].2).length := hj
      rw [List.getElem?_eq_getElem hlt] at e1 ⊢
      have := h2.cells (g := g) rfl _ _ e1
      rw [ad] at this
      rw [Nat.add_assoc]; exact this
    · rw [hgi]
      exact h3 ps[i] (List.getElem_mem _) w (Nat.le_refl _) (fun _ _ _ _ => rfl)
theorem inf69 : (Try.prog.info? 79).map (fun i => (i.zero, i.size, i.bytes)) = some (some (.agg #[.slice none 0 0, .int .u16 0, .int .u16 0, .int .u32 0, .slice none 0 0, .slice none 0 0, .slice none 0 0, .slice none 0 0]), 8, 128) := by kernel_rfl
theorem inf69' : ∃ i, Try.prog.info? 79 = some i ∧ i.zero = some (.agg #[.slice none 0 0, .int .u16 0, .int .u16 0, .int .u32 0, .slice none 0 0, .slice none 0 0, .slice none 0 0, .slice none 0 0]) ∧ i.size = 8 ∧ i.bytes = 128 := by
  obtain ⟨i, h1, h2⟩ := Option.map_eq_some_iff.1 inf69
  simp only [Prod.mk.injEq] at h2
  exact ⟨i, h1, h2.1, h2.2.1, h2.2.2⟩
theorem one_rec (w : World) (x : RA) (r : Rec) : ∀ j u, (cellsR [(x, r)])[j]? = some u → (w.alloc (.cells (recCells x r).toArray 79)).cell? ((⟨w.heap.size, 0, none⟩ : Addr).add j) = some u := by
  intro j u hu
  have ad : (⟨w.heap.size, 0, none⟩ : Addr).add j = ⟨w.heap.size, j, none⟩ := by unfold Addr.add; split <;> simp_all
  rw [ad]
  unfold World.cell?
  rw [heap_alloc_new]
  have : cellsR [(x, r)] = recCells x r := by simp [cellsR]
  rw [this] at hu
  simpa using hu
/-- One more behind a list of records. -/
theorem OwR.push {B : Nat} {wr w2 w3 w4 : World} {v v' : Value} {ps : List (RA × Rec)} {y : RA} {r : Rec} (h3 : ∀ p ∈ ps, RfR B wr v.ownBlock p.1 p.2) (hl : wr.ownsRow B 79 8 v ps.length (cellsR ps)) (hB : B ≤ wr.heap.size) (hy : ROwx wr.heap.size w2 y r) (hb3 : Below w2.heap.size w2 w3) (hb2 : Below wr.heap.size wr w2) (h5 : w4.ownsRow B 79 8 v' (ps.length + 1) (cellsR ps ++ cellsR [(y, r)])) (h6 : w3.grownBy w4 v.ownBlock) (h7 : v'.ownBlock = v.ownBlock ∨ v'.ownBlock = some w3.heap.size) : OwR B w4 v' (ps.map (·.2) ++ [r]) := by
  refine ⟨ps ++ [(y, r)], by simp, ?_, ?_⟩
  · rw [cellsR_app, List.length_append]; exact h5
  · have s2 := hb2.size
    have s3 := hb3.size
    have s4 := h6.size
    have hlt := hl.lt
    intro p hp
    rcases List.mem_append.1 hp with hp | hp
    · refine (h3 p hp).go (by omega) (fun j e1 e2 e3 => ?_) (fun j e1 e2 => ?_)
      · rw [h6.block j (by omega) e3, hb3.block j (by omega), hb2.block j e1]
      · rcases h7 with h7 | h7
        · rw [h7]; exact e2
        · rw [h7]; intro e; injection e with e; omega
    · rw [List.mem_singleton] at hp
      subst hp
      have := RfR.of (g := v.ownBlock) hy hB (fun k e => (hlt k e).2)
      refine this.go (by omega) (fun j e1 e2 e3 => ?_) (fun j e1 e2 => ?_)
      · rw [h6.block j (by omega) e3, hb3.block j (by omega)]
      · rcases h7 with h7 | h7
        · rw [h7]; exact e2
        · rw [h7]; intro e; injection e with e; omega
end Go.Proofs.Ytmlccnpondemiaa
namespace Go.Proofs.Ytmlccnpondemiaa
open Go.ChangeShapes Go.WideShapes Go.ChangeAt Go.RowKit
set_option linter.unusedVariables false
set_option maxHeartbeats 1000000 in
theorem flags40 (b : Nat) (w : World) :
    Calls Try.prog 40 #[.pointer (some ⟨b, 0, none⟩)] w fun e w' => e = .returned (.agg #[.int .i64 32768, .pointer (some ⟨b, 1, none⟩), .int .i64 1024, .pointer (some ⟨b, 3, none⟩), .int .i64 512, .pointer (some ⟨b, 4, none⟩), .int .i64 256, .pointer (some ⟨b, 5, none⟩), .int .i64 128, .pointer (some ⟨b, 6, none⟩), .int .i64 32, .pointer (some ⟨b, 7, none⟩), .int .i64 16, .pointer (some ⟨b, 8, none⟩)]) ∧ Below w.heap.size w w' := by
  go_enter Try.func40, Try.ntmps40
  go_wp2
  go_region
  go_wp2
  refine bodyPost_ret (v := .agg #[.int .i64 32768, .pointer (some ⟨b, 1, none⟩), .int .i64 1024, .pointer (some ⟨b, 3, none⟩), .int .i64 512, .pointer (some ⟨b, 4, none⟩), .int .i64 256, .pointer (some ⟨b, 5, none⟩), .int .i64 128, .pointer (some ⟨b, 6, none⟩), .int .i64 32, .pointer (some ⟨b, 7, none⟩), .int .i64 16, .pointer (some ⟨b, 8, none⟩)]) ?_ rfl ⟨rfl, ?_⟩
  · simp [results, Try.results40, go_sem]
  exact ((Below.refl _ _).alloc (Nat.le_refl _) _).drew
end Go.Proofs.Ytmlccnpondemiaa
namespace Go.Proofs.Ytmlccnpondemiaa
set_option linter.unusedVariables false
theorem wrap_i64_nat (n : Nat) (h : n < 65536) : IntKind.i64.wrap (n : Int) = (n : Int) := by
  have e : (n : Int) % 2 ^ 64 = n := Int.emod_eq_of_lt (by omega) (by omega)
  simp only [IntKind.wrap, IntKind.bits, IntKind.signed, e]
  rw [if_neg]
  simp
  omega
theorem i64_or_nat (a b : Nat) (ha : a < 65536) (hb : b < 65536) : bits .or .i64 (a : Int) (b : Int) = ((a ||| b : Nat) : Int) := by
  have hx : a ||| b < 2 ^ 16 := Nat.or_lt_two_pow (by omega) (by omega)
  show IntKind.i64.wrap ((BitVec.ofInt 64 (a : Int) ||| BitVec.ofInt 64 (b : Int)).toNat : Int) = _
  rw [BitVec.toNat_or, ofInt_u64 a (by omega), ofInt_u64 b (by omega)]
  exact wrap_i64_nat _ (by omega)
/-- The flags' bits, in the code's order. -/
def fls (rs aa tc rd ra ad cd : Bool) : List (Bool × Nat) := [(rs, 32768), (aa, 1024), (tc, 512), (rd, 256), (ra, 128), (ad, 32), (cd, 16)]
def accN (n : Nat) (l : List (Bool × Nat)) : Nat := l.foldl (fun n x => if x.1 then n ||| x.2 else n) n
theorem accN_lt (l : List (Bool × Nat)) : ∀ n, n < 65536 → (∀ x ∈ l, x.2 < 65536) → accN n l < 65536 := by
  induction l with
  | nil => intro n h _; exact h
  | cons x r ih =>
    intro n h hx
    show accN (if x.1 then n ||| x.2 else n) r < 65536
    refine ih _ ?_ fun y hy => hx y (List.mem_cons_of_mem _ hy)
    split
    · exact Nat.or_lt_two_pow (n := 16) h (hx x List.mem_cons_self)
    · exact h
theorem fls_lt (rs aa tc rd ra ad cd : Bool) (x : Bool × Nat) (hx : x ∈ fls rs aa tc rd ra ad cd) : x.2 < 65536 := by
  simp only [fls, List.mem_cons, List.not_mem_nil, or_false] at hx
  rcases hx with rfl | rfl | rfl | rfl | rfl | rfl | rfl <;> simp
def packN (op rc : Nat) (rs aa tc rd ra ad cd : Bool) : Nat := accN (op * 2048 ||| rc) (fls rs aa tc rd ra ad cd)
theorem head_lt {op rc : Nat} (h1 : op < 16) (h2 : rc < 16) : op * 2048 ||| rc < 65536 := Nat.or_lt_two_pow (n := 16) (by omega) (by omega)
theorem packN_lt {op rc : Nat} (h1 : op < 16) (h2 : rc < 16) (rs aa tc rd ra ad cd : Bool) : packN op rc rs aa tc rd ra ad cd < 65536 :=
  accN_lt _ _ (head_lt h1 h2) (fls_lt rs aa tc rd ra ad cd)
theorem acc_take_lt {op rc : Nat} (h1 : op < 16) (h2 : rc < 16) (rs aa tc rd ra ad cd : Bool) (k : Nat) : accN (op * 2048 ||| rc) ((fls rs aa tc rd ra ad cd).take k) < 65536 :=
  accN_lt _ _ (head_lt h1 h2) fun x hx => fls_lt _ _ _ _ _ _ _ x (List.mem_of_mem_take hx)
theorem or_bit (n k : Nat) (h : n / 2 ^ k % 2 = 0) : n ||| 2 ^ k = n + 2 ^ k := by
  have hp : 0 < 2 ^ k := Nat.two_pow_pos k
  have e2 : 2 ^ (k + 1) = 2 ^ k * 2 := Nat.pow_succ ..
  have hlo : n % 2 ^ k < 2 ^ k := Nat.mod_lt _ hp
  have e0 : n = n / 2 ^ (k + 1) * 2 ^ (k + 1) + n % 2 ^ k := by
    have h1 := Nat.div_add_mod n (2 ^ k)
    have h2 : n / 2 ^ (k + 1) = n / 2 ^ k / 2 := by rw [e2, Nat.div_div_eq_div_mul]
    have h3 : n / 2 ^ k / 2 * 2 = n / 2 ^ k := by omega
    rw [h2, e2]
    have h4 : n / 2 ^ k / 2 * (2 ^ k * 2) = 2 ^ k * (n / 2 ^ k / 2 * 2) := by rw [Nat.mul_comm (2 ^ k) 2, ← Nat.mul_assoc, Nat.mul_comm]
    rw [h4, h3]
    exact h1.symm
  have hm : n / 2 ^ (k + 1) * 2 ^ (k + 1) % 2 ^ (k + 1) = 0 := Nat.mul_mod_left _ _
  have j1 : n / 2 ^ (k + 1) * 2 ^ (k + 1) ||| n % 2 ^ k = n / 2 ^ (k + 1) * 2 ^ (k + 1) + n % 2 ^ k := nat_join (k + 1) _ _ hm (by omega)
  have j2 : 2 ^ k ||| n % 2 ^ k = 2 ^ k + n % 2 ^ k := nat_join k _ _ (Nat.mod_self _) hlo
  have j3 : n / 2 ^ (k + 1) * 2 ^ (k + 1) ||| (2 ^ k + n % 2 ^ k) = n / 2 ^ (k + 1) * 2 ^ (k + 1) + (2 ^ k + n % 2 ^ k) := nat_join (k + 1) _ _ hm (by omega)
  calc n ||| 2 ^ k = (n / 2 ^ (k + 1) * 2 ^ (k + 1) ||| n % 2 ^ k) ||| 2 ^ k := by rw [j1, ← e0]
    _ = n / 2 ^ (k + 1) * 2 ^ (k + 1) ||| (2 ^ k ||| n % 2 ^ k) := by rw [Nat.or_assoc, Nat.or_comm (n % 2 ^ k)]
    _ = n / 2 ^ (k + 1) * 2 ^ (k + 1) + (2 ^ k + n % 2 ^ k) := by rw [j2, j3]
    _ = n + 2 ^ k := by omega
theorem step_bit (n k : Nat) (b : Bool) (h : n / 2 ^ k % 2 = 0) : (if b then n ||| 2 ^ k else n) = n + 2 ^ k * b.toNat := by
  cases b
  · simp
  · simp [or_bit n k h]
theorem packN_sum {op rc : Nat} (h1 : op < 16) (h2 : rc < 16) (rs aa tc rd ra ad cd : Bool) :
    packN op rc rs aa tc rd ra ad cd = op * 2048 + rc + 32768 * rs.toNat + 1024 * aa.toNat + 512 * tc.toNat + 256 * rd.toNat + 128 * ra.toNat + 32 * ad.toNat + 16 * cd.toNat := by
  have b1 := Bool.toNat_le rs; have b2 := Bool.toNat_le aa; have b3 := Bool.toNat_le tc; have b4 := Bool.toNat_le rd; have b5 := Bool.toNat_le ra; have b6 := Bool.toNat_le ad; have b7 := Bool.toNat_le cd
  have j0 : op * 2048 ||| rc = op * 2048 + rc := nat_join 11 _ _ (by omega) (by omega)
  simp only [packN, accN, fls, List.foldl_cons, List.foldl_nil, j0]
  have s1 := step_bit (op * 2048 + rc) 15 rs (by simp only [Nat.reducePow]; omega)
  simp only [Nat.reducePow] at s1
  rw [s1]
  have s2 := step_bit (op * 2048 + rc + 32768 * rs.toNat) 10 aa (by simp only [Nat.reducePow]; omega)
  simp only [Nat.reducePow] at s2
  rw [s2]
  have s3 := step_bit (op * 2048 + rc + 32768 * rs.toNat + 1024 * aa.toNat) 9 tc (by simp only [Nat.reducePow]; omega)
  simp only [Nat.reducePow] at s3
  rw [s3]
  have s4 := step_bit (op * 2048 + rc + 32768 * rs.toNat + 1024 * aa.toNat + 512 * tc.toNat) 8 rd (by simp only [Nat.reducePow]; omega)
  simp only [Nat.reducePow] at s4
  rw [s4]
  have s5 := step_bit (op * 2048 + rc + 32768 * rs.toNat + 1024 * aa.toNat + 512 * tc.toNat + 256 * rd.toNat) 7 ra (by simp only [Nat.reducePow]; omega)
  simp only [Nat.reducePow] at s5
  rw [s5]
  have s6 := step_bit (op * 2048 + rc + 32768 * rs.toNat + 1024 * aa.toNat + 512 * tc.toNat + 256 * rd.toNat + 128 * ra.toNat) 5 ad (by simp only [Nat.reducePow]; omega)
  simp only [Nat.reducePow] at s6
  rw [s6]
  have s7 := step_bit (op * 2048 + rc + 32768 * rs.toNat + 1024 * aa.toNat + 512 * tc.toNat + 256 * rd.toNat + 128 * ra.toNat + 32 * ad.toNat) 4 cd (by simp only [Nat.reducePow]; omega)
  simp only [Nat.reducePow] at s7
  rw [s7]
/-- The document's sum. -/
def wt (b : Bool) (n : Nat) : Nat := if b then n else 0
theorem wt_nat (b : Bool) (n : Nat) : wt b n = n * b.toNat := by cases b <;> simp [wt]
theorem pack_bytes {op rc : Nat} (h1 : op < 16) (h2 : rc < 16) (rs aa tc rd ra ad cd : Bool) :
    packN op rc rs aa tc rd ra ad cd = (wt rs 128 + 8 * op + wt aa 4 + wt tc 2 + wt rd 1) * 256 + (wt ra 128 + wt ad 32 + wt cd 16 + rc) := by
  rw [packN_sum h1 h2]
  simp only [wt_nat]
  omega
end Go.Proofs.Ytmlccnpondemiaa
namespace Go.Proofs.Ytmlccnpondemiaa
open Go.ChangeShapes Go.WideShapes Go.ChangeAt Go.RowKit
set_option linter.unusedVariables false
set_option maxHeartbeats 1000000 in
theorem pack_no (id : Int) (rs : Bool) (op : Int) (aa tc rd ra ad cd : Bool) (rc : Int) (a1 a2 a3 a4 : Option Addr) (n1 n2 n3 n4 c1 c2 c3 c4 : Nat) (w : World)
    (h : op < 0 ∨ (0 ≤ op ∧ 15 < op) ∨ (0 ≤ op ∧ op ≤ 15 ∧ rc < 0) ∨ (0 ≤ op ∧ op ≤ 15 ∧ 0 ≤ rc ∧ 15 < rc)) :
    Calls Try.prog 24 #[.agg #[.int .u16 id, .bool rs, .int .i64 op, .bool aa, .bool tc, .bool rd, .bool ra, .bool ad, .bool cd, .int .i64 rc, .slice a1 n1 c1, .slice a2 n2 c2, .slice a3 n3 c3, .slice a4 n4 c4]] w fun e w' => e = .returned (.tuple #[.int .i64 0, .int .i64 2]) ∧ Below w.heap.size w w' := by
  rcases h with h | ⟨h0, h⟩ | ⟨h0, h1, h⟩ | ⟨h0, h1, h2, h⟩
  all_goals
    go_enter Try.func24, Try.ntmps24
    go_wp2
    go_ret2
    exact ⟨rfl, (Below.refl _ _).alloc (Nat.le_refl _) _⟩
theorem ix0 (b : Nat) (w : World) : (Instr.index 85 (.agg #[.int .i64 32768, .pointer (some ⟨b, 1, none⟩), .int .i64 1024, .pointer (some ⟨b, 3, none⟩), .int .i64 512, .pointer (some ⟨b, 4, none⟩), .int .i64 256, .pointer (some ⟨b, 5, none⟩), .int .i64 128, .pointer (some ⟨b, 6, none⟩), .int .i64 32, .pointer (some ⟨b, 7, none⟩), .int .i64 16, .pointer (some ⟨b, 8, none⟩)]) (.int .i64 0)).run Try.prog w = .ok (.agg #[.int .i64 32768, .pointer (some ⟨b, 1, none⟩)]) w := by kernel_rfl
theorem ix1 (b : Nat) (w : World) : (Instr.index 85 (.agg #[.int .i64 32768, .pointer (some ⟨b, 1, none⟩), .int .i64 1024, .pointer (some ⟨b, 3, none⟩), .int .i64 512, .pointer (some ⟨b, 4, none⟩), .int .i64 256, .pointer (some ⟨b, 5, none⟩), .int .i64 128, .pointer (some ⟨b, 6, none⟩), .int .i64 32, .pointer (some ⟨b, 7, none⟩), .int .i64 16, .pointer (some ⟨b, 8, none⟩)]) (.int .i64 1)).run Try.prog w = .ok (.agg #[.int .i64 1024, .pointer (some ⟨b, 3, none⟩)]) w := by kernel_rfl
theorem ix2 (b : Nat) (w : World) : (Instr.index 85 (.agg #[.int .i64 32768, .pointer (some ⟨b, 1, none⟩), .int .i64 1024, .pointer (some ⟨b, 3, none⟩), .int .i64 512, .pointer (some ⟨b, 4, none⟩), .int .i64 256, .pointer (some ⟨b, 5, none⟩), .int .i64 128, .pointer (some ⟨b, 6, none⟩), .int .i64 32, .pointer (some ⟨b, 7, none⟩), .int .i64 16, .pointer (some ⟨b, 8, none⟩)]) (.int .i64 2)).run Try.prog w = .ok (.agg #[.int .i64 512, .pointer (some ⟨b, 4, none⟩)]) w := by kernel_rfl
theorem ix3 (b : Nat) (w : World) : (Instr.index 85 (.agg #[.int .i64 32768, .pointer (some ⟨b, 1, none⟩), .int .i64 1024, .pointer (some ⟨b, 3, none⟩), .int .i64 512, .pointer (some ⟨b, 4, none⟩), .int .i64 256, .pointer (some ⟨b, 5, none⟩), .int .i64 128, .pointer (some ⟨b, 6, none⟩), .int .i64 32, .pointer (some ⟨b, 7, none⟩), .int .i64 16, .pointer (some ⟨b, 8, none⟩)]) (.int .i64 3)).run Try.prog w = .ok (.agg #[.int .i64 256, .pointer (some ⟨b, 5, none⟩)]) w := by kernel_rfl
theorem ix4 (b : Nat) (w : World) : (Instr.index 85 (.agg #[.int .i64 32768, .pointer (some ⟨b, 1, none⟩), .int .i64 1024, .pointer (some ⟨b, 3, none⟩), .int .i64 512, .pointer (some ⟨b, 4, none⟩), .int .i64 256, .pointer (some ⟨b, 5, none⟩), .int .i64 128, .pointer (some ⟨b, 6, none⟩), .int .i64 32, .pointer (some ⟨b, 7, none⟩), .int .i64 16, .pointer (some ⟨b, 8, none⟩)]) (.int .i64 4)).run Try.prog w = .ok (.agg #[.int .i64 128, .pointer (some ⟨b, 6, none⟩)]) w := by kernel_rfl
theorem ix5 (b : Nat) (w : World) : (Instr.index 85 (.agg #[.int .i64 32768, .pointer (some ⟨b, 1, none⟩), .int .i64 1024, .pointer (some ⟨b, 3, none⟩), .int .i64 512, .pointer (some ⟨b, 4, none⟩), .int .i64 256, .pointer (some ⟨b, 5, none⟩), .int .i64 128, .pointer (some ⟨b, 6, none⟩), .int .i64 32, .pointer (some ⟨b, 7, none⟩), .int .i64 16, .pointer (some ⟨b, 8, none⟩)]) (.int .i64 5)).run Try.prog w = .ok (.agg #[.int .i64 32, .pointer (some ⟨b, 7, none⟩)]) w := by kernel_rfl
theorem ix6 (b : Nat) (w : World) : (Instr.index 85 (.agg #[.int .i64 32768, .pointer (some ⟨b, 1, none⟩), .int .i64 1024, .pointer (some ⟨b, 3, none⟩), .int .i64 512, .pointer (some ⟨b, 4, none⟩), .int .i64 256, .pointer (some ⟨b, 5, none⟩), .int .i64 128, .pointer (some ⟨b, 6, none⟩), .int .i64 32, .pointer (some ⟨b, 7, none⟩), .int .i64 16, .pointer (some ⟨b, 8, none⟩)]) (.int .i64 6)).run Try.prog w = .ok (.agg #[.int .i64 16, .pointer (some ⟨b, 8, none⟩)]) w := by kernel_rfl
/-- A message's box. -/
def MBox (w : World) (b : Nat) (id : Value) (rs : Bool) (op : Value) (aa tc rd ra ad cd : Bool) : Prop :=
  b < w.heap.size ∧ w.cell? ⟨b, 1, none⟩ = some (.bool rs) ∧ w.cell? ⟨b, 3, none⟩ = some (.bool aa) ∧ w.cell? ⟨b, 4, none⟩ = some (.bool tc) ∧ w.cell? ⟨b, 5, none⟩ = some (.bool rd) ∧ w.cell? ⟨b, 6, none⟩ = some (.bool ra) ∧ w.cell? ⟨b, 7, none⟩ = some (.bool ad) ∧ w.cell? ⟨b, 8, none⟩ = some (.bool cd)
theorem MBox.below {w w' : World} {b : Nat} {id : Value} {rs : Bool} {op : Value} {aa tc rd ra ad cd : Bool} (h : MBox w b id rs op aa tc rd ra ad cd) (hb : Below w.heap.size w w') : MBox w' b id rs op aa tc rd ra ad cd := by
  obtain ⟨h0, h1, h2, h3, h4, h5, h6, h7⟩ := h
  exact ⟨Nat.lt_of_lt_of_le h0 hb.size, (hb.cell (p := ⟨b, 1, none⟩) h0).trans h1, (hb.cell (p := ⟨b, 3, none⟩) h0).trans h2, (hb.cell (p := ⟨b, 4, none⟩) h0).trans h3, (hb.cell (p := ⟨b, 5, none⟩) h0).trans h4, (hb.cell (p := ⟨b, 6, none⟩) h0).trans h5, (hb.cell (p := ⟨b, 7, none⟩) h0).trans h6, (hb.cell (p := ⟨b, 8, none⟩) h0).trans h7⟩
set_option maxHeartbeats 1000000 in
theorem pack_ok (id : Int) (rs : Bool) (op : Nat) (aa tc rd ra ad cd : Bool) (rc : Nat) (a1 a2 a3 a4 : Option Addr) (n1 n2 n3 n4 c1 c2 c3 c4 : Nat) (w : World)
    (ho : op < 16) (hr : rc < 16) :
    Calls Try.prog 24 #[.agg #[.int .u16 id, .bool rs, .int .i64 (op : Int), .bool aa, .bool tc, .bool rd, .bool ra, .bool ad, .bool cd, .int .i64 (rc : Int), .slice a1 n1 c1, .slice a2 n2 c2, .slice a3 n3 c3, .slice a4 n4 c4]] w fun e w' => e = .returned (.tuple #[.int .i64 (packN op rc rs aa tc rd ra ad cd : Nat), .int .i64 0]) ∧ Below w.heap.size w w' := by
  have h1 : ¬ (op : Int) < 0 := by omega
  have h2 : (op : Int) ≤ 15 := by omega
  have h3 : ¬ (rc : Int) < 0 := by omega
  have h4 : (rc : Int) ≤ 15 := by omega
  have HT : ∀ k, Hid (accN (op * 2048 ||| rc) ((fls rs aa tc rd ra ad cd).take k) < 65536) := fun k => acc_take_lt ho hr rs aa tc rd ra ad cd k
  have HP : Hid (packN op rc rs aa tc rd ra ad cd = accN (op * 2048 ||| rc) (fls rs aa tc rd ra ad cd)) := rfl
  obtain ⟨N0, hN0⟩ : ∃ N0, N0 = op * 2048 ||| rc := ⟨_, rfl⟩
  have h5 : bits .or .i64 ((op : Int) * 2048) (rc : Int) = (N0 : Int) := by
    have := i64_or_nat (op * 2048) rc (by omega) (by omega)
    rw [hN0]; simpa using this
  have HT' : ∀ k, Hid (accN N0 ((fls rs aa tc rd ra ad cd).take k) < 65536) := by rw [hN0]; exact HT
  have HP' : Hid (packN op rc rs aa tc rd ra ad cd = accN N0 (fls rs aa tc rd ra ad cd)) := by rw [hN0]; exact HP
  clear HT HP hN0
  generalize packN op rc rs aa tc rd ra ad cd = P at *
  go_enter Try.func24, Try.ntmps24
  go_wp2_with fail
  refine (flags40 _ _).mono ?_
  rintro e w1 ⟨rfl, hb1⟩
  have HM : Hid (MBox w1 w.heap.size (.int .u16 id) rs (.int .i64 op) aa tc rd ra ad cd) := by
    refine MBox.below ?_ hb1
    simp [MBox]
  have HB : Hid (Below w.heap.size w w1) := (((Below.refl _ _).alloc (Nat.le_refl _) _).trans (hb1.mono (by simp)))
  clear hb1
  go_wp2_with fail
  go_loopw [4, 32] (fun y x wr => ∃ k : Nat, k ≤ 7 ∧ x = .int .i64 (k : Int) ∧ y = .int .i64 (accN N0 ((fls rs aa tc rd ra ad cd).take k) : Nat) ∧ Hid (Below w1.heap.size w1 wr)) (fun _ x _ => 7 - (intOf x).toNat)
  case atStart => exact ⟨0, by omega, rfl, rfl, Below.refl _ _⟩
  case round =>
    obtain ⟨k, hk, rfl, rfl, HW⟩ := hrel
    have HM' := HM.out.below HW.out
    obtain ⟨m0, m1, m2, m3, m4, m5, m6, m7⟩ := HM'
    by_cases hlt : k < 7
    · have hlt' : (k : Int) < 7 := by omega
      have hstep : ∀ (x : Bool) (v : Nat), (fls rs aa tc rd ra ad cd)[k]? = some (x, v) → Hid (v < 65536 → (x = true → bits .or .i64 (accN N0 ((fls rs aa tc rd ra ad cd).take k) : Nat) (v : Int) = (accN N0 ((fls rs aa tc rd ra ad cd).take (k + 1)) : Nat)) ∧ (x = false → accN N0 ((fls rs aa tc rd ra ad cd).take (k + 1)) = accN N0 ((fls rs aa tc rd ra ad cd).take k))) := by
        intro x v e hv
        have e2 : (fls rs aa tc rd ra ad cd).take (k + 1) = (fls rs aa tc rd ra ad cd).take k ++ [(x, v)] := by rw [List.take_add_one, e]; rfl
        constructor
        · intro ex
          rw [i64_or_nat _ _ (HT' k).out hv, e2]
          simp [accN, ex]
        · intro ex
          rw [e2]
          simp [accN, ex]
      rcases Nat.lt_or_ge k 1 with hk' | hk'
      · obtain rfl : k = 0 := by omega
        have HS := hstep rs 32768 rfl
        have ix := ix0 w.heap.size
        clear hstep
        generalize accN N0 ((fls rs aa tc rd ra ad cd).take 0) = A at *
        obtain ⟨A', hA'⟩ : ∃ A', A' = accN N0 ((fls rs aa tc rd ra ad cd).take (0 + 1)) := ⟨_, rfl⟩
        rw [← hA'] at HS
        have HA' : Hid (A' = accN N0 ((fls rs aa tc rd ra ad cd).take (0 + 1))) := hA'
        clear hA'
        obtain ⟨xx, hxx⟩ : ∃ xx, xx = rs := ⟨_, rfl⟩
        rw [← hxx] at m1 HS
        have HX : Hid (xx = rs) := hxx
        clear hxx
        cases xx
        · have hA : Hid (A' = A) := (HS.out (by omega)).2 rfl
          go_wp2
          go_round
          case rel => exact ⟨0 + 1, by omega, by go_num, by rw [← HA'.out, hA.out], (HW.out.alloc HW.out.size _)⟩
          case measure => simp [intOf]
        · have hA : bits .or .i64 (A : Int) 32768 = (A' : Int) := (HS.out (by omega)).1 rfl
          go_wp2
          go_round
          case rel => exact ⟨0 + 1, by omega, by go_num, by rw [← HA'.out], (HW.out.alloc HW.out.size _)⟩
          case measure => simp [intOf]
      rcases Nat.lt_or_ge k 2 with hk' | hk'
      · obtain rfl : k = 1 := by omega
        have HS := hstep aa 1024 rfl
        have ix := ix1 w.heap.size
        clear hstep
        generalize accN N0 ((fls rs aa tc rd ra ad cd).take 1) = A at *
        obtain ⟨A', hA'⟩ : ∃ A', A' = accN N0 ((fls rs aa tc rd ra ad cd).take (1 + 1)) := ⟨_, rfl⟩
        rw [← hA'] at HS
        have HA' : Hid (A' = accN N0 ((fls rs aa tc rd ra ad cd).take (1 + 1))) := hA'
        clear hA'
        obtain ⟨xx, hxx⟩ : ∃ xx, xx = aa := ⟨_, rfl⟩
        rw [← hxx] at m2 HS
        have HX : Hid (xx = aa) := hxx
        clear hxx
        cases xx
        · have hA : Hid (A' = A) := (HS.out (by omega)).2 rfl
          go_wp2
          go_round
          case rel => exact ⟨1 + 1, by omega, by go_num, by rw [← HA'.out, hA.out], (HW.out.alloc HW.out.size _)⟩
          case measure => simp [intOf]
        · have hA : bits .or .i64 (A : Int) 1024 = (A' : Int) := (HS.out (by omega)).1 rfl
          go_wp2
          go_round
          case rel => exact ⟨1 + 1, by omega, by go_num, by rw [← HA'.out], (HW.out.alloc HW.out.size _)⟩
          case measure => simp [intOf]
      rcases Nat.lt_or_ge k 3 with hk' | hk'
      · obtain rfl : k = 2 := by omega
        have HS := hstep tc 512 rfl
        have ix := ix2 w.heap.size
        clear hstep
        generalize accN N0 ((fls rs aa tc rd ra ad cd).take 2) = A at *
        obtain ⟨A', hA'⟩ : ∃ A', A' = accN N0 ((fls rs aa tc rd ra ad cd).take (2 + 1)) := ⟨_, rfl⟩
        rw [← hA'] at HS
        have HA' : Hid (A' = accN N0 ((fls rs aa tc rd ra ad cd).take (2 + 1))) := hA'
        clear hA'
        obtain ⟨xx, hxx⟩ : ∃ xx, xx = tc := ⟨_, rfl⟩
        rw [← hxx] at m3 HS
        have HX : Hid (xx = tc) := hxx
        clear hxx
        cases xx
        · have hA : Hid (A' = A) := (HS.out (by omega)).2 rfl
          go_wp2
          go_round
          case rel => exact ⟨2 + 1, by omega, by go_num, by rw [← HA'.out, hA.out], (HW.out.alloc HW.out.size _)⟩
          case measure => simp [intOf]
        · have hA : bits .or .i64 (A : Int) 512 = (A' : Int) := (HS.out (by omega)).1 rfl
          go_wp2
          go_round
          case rel => exact ⟨2 + 1, by omega, by go_num, by rw [← HA'.out], (HW.out.alloc HW.out.size _)⟩
          case measure => simp [intOf]
      rcases Nat.lt_or_ge k 4 with hk' | hk'
      · obtain rfl : k = 3 := by omega
        have HS := hstep rd 256 rfl
        have ix := ix3 w.heap.size
        clear hstep
        generalize accN N0 ((fls rs aa tc rd ra ad cd).take 3) = A at *
        obtain ⟨A', hA'⟩ : ∃ A', A' = accN N0 ((fls rs aa tc rd ra ad cd).take (3 + 1)) := ⟨_, rfl⟩
        rw [← hA'] at HS
        have HA' : Hid (A' = accN N0 ((fls rs aa tc rd ra ad cd).take (3 + 1))) := hA'
        clear hA'
        obtain ⟨xx, hxx⟩ : ∃ xx, xx = rd := ⟨_, rfl⟩
        rw [← hxx] at m4 HS
        have HX : Hid (xx = rd) := hxx
        clear hxx
        cases xx
        · have hA : Hid (A' = A) := (HS.out (by omega)).2 rfl
          go_wp2
          go_round
          case rel => exact ⟨3 + 1, by omega, by go_num, by rw [← HA'.out, hA.out], (HW.out.alloc HW.out.size _)⟩
          case measure => simp [intOf]
        · have hA : bits .or .i64 (A : Int) 256 = (A' : Int) := (HS.out (by omega)).1 rfl
          go_wp2
          go_round
          case rel => exact ⟨3 + 1, by omega, by go_num, by rw [← HA'.out], (HW.out.alloc HW.out.size _)⟩
          case measure => simp [intOf]
      rcases Nat.lt_or_ge k 5 with hk' | hk'
      · obtain rfl : k = 4 := by omega
        have HS := hstep ra 128 rfl
        have ix := ix4 w.heap.size
        clear hstep
        generalize accN N0 ((fls rs aa tc rd ra ad cd).take 4) = A at *
        obtain ⟨A', hA'⟩ : ∃ A', A' = accN N0 ((fls rs aa tc rd ra ad cd).take (4 + 1)) := ⟨_, rfl⟩
        rw [← hA'] at HS
        have HA' : Hid (A' = accN N0 ((fls rs aa tc rd ra ad cd).take (4 + 1))) := hA'
        clear hA'
        obtain ⟨xx, hxx⟩ : ∃ xx, xx = ra := ⟨_, rfl⟩
        rw [← hxx] at m5 HS
        have HX : Hid (xx = ra) := hxx
        clear hxx
        cases xx
        · have hA : Hid (A' = A) := (HS.out (by omega)).2 rfl
          go_wp2
          go_round
          case rel => exact ⟨4 + 1, by omega, by go_num, by rw [← HA'.out, hA.out], (HW.out.alloc HW.out.size _)⟩
          case measure => simp [intOf]
        · have hA : bits .or .i64 (A : Int) 128 = (A' : Int) := (HS.out (by omega)).1 rfl
          go_wp2
          go_round
          case rel => exact ⟨4 + 1, by omega, by go_num, by rw [← HA'.out], (HW.out.alloc HW.out.size _)⟩
          case measure => simp [intOf]
      rcases Nat.lt_or_ge k 6 with hk' | hk'
      · obtain rfl : k = 5 := by omega
        have HS := hstep ad 32 rfl
        have ix := ix5 w.heap.size
        clear hstep
        generalize accN N0 ((fls rs aa tc rd ra ad cd).take 5) = A at *
        obtain ⟨A', hA'⟩ : ∃ A', A' = accN N0 ((fls rs aa tc rd ra ad cd).take (5 + 1)) := ⟨_, rfl⟩
        rw [← hA'] at HS
        have HA' : Hid (A' = accN N0 ((fls rs aa tc rd ra ad cd).take (5 + 1))) := hA'
        clear hA'
        obtain ⟨xx, hxx⟩ : ∃ xx, xx = ad := ⟨_, rfl⟩
        rw [← hxx] at m6 HS
        have HX : Hid (xx = ad) := hxx
        clear hxx
        cases xx
        · have hA : Hid (A' = A) := (HS.out (by omega)).2 rfl
          go_wp2
          go_round
          case rel => exact ⟨5 + 1, by omega, by go_num, by rw [← HA'.out, hA.out], (HW.out.alloc HW.out.size _)⟩
          case measure => simp [intOf]
        · have hA : bits .or .i64 (A : Int) 32 = (A' : Int) := (HS.out (by omega)).1 rfl
          go_wp2
          go_round
          case rel => exact ⟨5 + 1, by omega, by go_num, by rw [← HA'.out], (HW.out.alloc HW.out.size _)⟩
          case measure => simp [intOf]
      rcases Nat.lt_or_ge k 7 with hk' | hk'
      · obtain rfl : k = 6 := by omega
        have HS := hstep cd 16 rfl
        have ix := ix6 w.heap.size
        clear hstep
        generalize accN N0 ((fls rs aa tc rd ra ad cd).take 6) = A at *
        obtain ⟨A', hA'⟩ : ∃ A', A' = accN N0 ((fls rs aa tc rd ra ad cd).take (6 + 1)) := ⟨_, rfl⟩
        rw [← hA'] at HS
        have HA' : Hid (A' = accN N0 ((fls rs aa tc rd ra ad cd).take (6 + 1))) := hA'
        clear hA'
        obtain ⟨xx, hxx⟩ : ∃ xx, xx = cd := ⟨_, rfl⟩
        rw [← hxx] at m7 HS
        have HX : Hid (xx = cd) := hxx
        clear hxx
        cases xx
        · have hA : Hid (A' = A) := (HS.out (by omega)).2 rfl
          go_wp2
          go_round
          case rel => exact ⟨6 + 1, by omega, by go_num, by rw [← HA'.out, hA.out], (HW.out.alloc HW.out.size _)⟩
          case measure => simp [intOf]
        · have hA : bits .or .i64 (A : Int) 16 = (A' : Int) := (HS.out (by omega)).1 rfl
          go_wp2
          go_round
          case rel => exact ⟨6 + 1, by omega, by go_num, by rw [← HA'.out], (HW.out.alloc HW.out.size _)⟩
          case measure => simp [intOf]
      · omega
    · obtain rfl : k = 7 := by omega
      go_wp2
      go_ret2
      refine ⟨?_, HB.out.trans (HW.out.mono HB.out.size)⟩
      rw [HP'.out]
      rfl
end Go.Proofs.Ytmlccnpondemiaa
namespace Go.Proofs.Ytmlccnpondemiaa
open Go.ChangeShapes Go.WideShapes Go.ChangeAt Go.RowKit
set_option linter.unusedVariables false
set_option linter.unusedSimpArgs false
theorem put16_no (n : Int) (w : World) (h : n < 0 ∨ (0 ≤ n ∧ 65535 < n)) :
    Calls Try.prog 26 #[.int .i64 n] w fun e w' => e = .returned (.tuple #[.slice none 0 0, .int .i64 2]) ∧ w' = w := by
  rcases h with h | ⟨h0, h⟩
  · go_enter Try.func26, Try.ntmps26
    go_wp2
    go_ret2
    exact ⟨rfl, rfl⟩
  · go_enter Try.func26, Try.ntmps26
    go_wp2
    go_ret2
    exact ⟨rfl, rfl⟩
theorem put16_yes (n : Int) (w : World) (h0 : 0 ≤ n) (h1 : n ≤ 65535) :
    Calls Try.prog 26 #[.int .i64 n] w fun e w' => e = .returned (.tuple #[.slice (some ⟨w.heap.size, 0, none⟩) 2 2, .int .i64 0]) ∧ w' = w.alloc (.cells #[.int .u8 (n / 256), .int .u8 (n % 256)] 5) := by
  go_enter Try.func26, Try.ntmps26
  go_wp2
  go_ret2
  exact ⟨rfl, rfl⟩
end Go.Proofs.Ytmlccnpondemiaa
namespace Go.Proofs.Ytmlccnpondemiaa
open Go.ChangeShapes Go.WideShapes Go.ChangeAt Go.RowKit
set_option linter.unusedVariables false
set_option linter.unusedSimpArgs false
theorem copy_into (W : World) (D S so : Nat) (x y z0 z1 z2 z3 c0 c1 c2 c3 : Int) (sc : Nat) (hD : W.heap[D]? = some (.cells #[.int .i64 x, .int .i64 y, .int .i64 z0, .int .i64 z1, .int .i64 z2, .int .i64 z3] 56))
    (h0 : W.cell? ⟨S, 0, none⟩ = some (.int .i64 c0)) (h1 : W.cell? ⟨S, 1, none⟩ = some (.int .i64 c1)) (h2 : W.cell? ⟨S, 2, none⟩ = some (.int .i64 c2)) (h3 : W.cell? ⟨S, 3, none⟩ = some (.int .i64 c3)) :
    (Builtin.copy_ #[70, 70] 3 #[.slice (some ⟨D, 2, none⟩) 4 4, .slice (some ⟨S, 0, none⟩) 4 4]).run Try.prog W = .ok (.int .i64 4) (W.setRow D #[.int .i64 x, .int .i64 y, .int .i64 c0, .int .i64 c1, .int .i64 c2, .int .i64 c3]) := by
  have := run_copy_row (P := Try.prog) W 70 70 3 3 D 2 4 4 ⟨S, 0, none⟩ 4 4 _ 56 [.int .i64 c0, .int .i64 c1, .int .i64 c2, .int .i64 c3] Try.underlying70 (by kernel_rfl) hD (by simp)
    (by
      intro j u hj
      match j, hj with
      | 0, hj => simp at hj; subst hj; simpa [Addr.add] using h0
      | 1, hj => simp at hj; subst hj; simpa [Addr.add] using h1
      | 2, hj => simp at hj; subst hj; simpa [Addr.add] using h2
      | 3, hj => simp at hj; subst hj; simpa [Addr.add] using h3
      | j + 4, hj => simp at hj) (by simp) (by intro u hu; simp at hu; rcases hu with rfl | rfl | rfl | rfl <;> rfl)
  rw [this]
  simp [goInt]
/-- What a row that is set holds. -/
theorem setRow_block {W : World} {D : Nat} {cs : Array Value} {ty : TypeId} (hD : W.heap[D]? = some (.cells cs ty)) (ds : Array Value) : (W.setRow D ds).heap[D]? = some (.cells ds ty) := by
  simp [World.setRow, Array.getElem?_modify, hD]
theorem cell_of_block {W : World} {D i : Nat} {cs : Array Value} {ty : TypeId} {v : Value} (hD : W.heap[D]? = some (.cells cs ty)) (hv : cs[i]? = some v) : W.cell? ⟨D, i, none⟩ = some v := by
  simp [World.cell?, hD, hv]
theorem frozen_of_block {W : World} {D i : Nat} {cs : Array Value} {ty : TypeId} (hD : W.heap[D]? = some (.cells cs ty)) : W.frozen? ⟨D, i, none⟩ = false := by
  simp [World.frozen?, hD]
theorem alloc3 (w : World) (o1 o2 o3 : Obj) : (((w.alloc o1).alloc o2).alloc o3).drew.heap[w.heap.size]? = some o1 ∧ (((w.alloc o1).alloc o2).alloc o3).drew.heap[w.heap.size + 1]? = some o2 ∧ (((w.alloc o1).alloc o2).alloc o3).drew.heap[w.heap.size + 1 + 1]? = some o3 := by
  refine ⟨?_, ?_, ?_⟩
  · show (((w.heap.push o1).push o2).push o3)[w.heap.size]? = some o1
    simp only [Array.getElem?_push, Array.size_push]
    repeat (first | rw [if_pos (by omega)] | rw [if_neg (by omega)])
    try simp
  · show (((w.heap.push o1).push o2).push o3)[w.heap.size + 1]? = some o2
    simp only [Array.getElem?_push, Array.size_push]
    repeat (first | rw [if_pos (by omega)] | rw [if_neg (by omega)])
    try simp
  · show (((w.heap.push o1).push o2).push o3)[w.heap.size + 1 + 1]? = some o3
    simp only [Array.getElem?_push, Array.size_push]
    repeat (first | rw [if_pos (by omega)] | rw [if_neg (by omega)])
    try simp
set_option maxHeartbeats 1000000 in
theorem together_any (x y c0 c1 c2 c3 : Int) (w : World) :
    Calls Try.prog 25 #[.int .i64 x, .int .i64 y, .agg #[.int .i64 c0, .int .i64 c1, .int .i64 c2, .int .i64 c3]] w fun e w' => e = .returned (.agg #[.int .i64 x, .int .i64 y, .int .i64 c0, .int .i64 c1, .int .i64 c2, .int .i64 c3]) ∧ Below w.heap.size w w' := by
  obtain ⟨W2, h, g0, g1, g2, g3, g4, g5, hs, HB⟩ : ∃ W2, (Builtin.copy_ #[70, 70] 3 #[.slice (some ⟨w.heap.size + 1 + 1, 2, none⟩) 4 4, .slice (some ⟨w.heap.size, 0, none⟩) 4 4]).run Try.prog (((w.alloc (.cells #[.int .i64 c0, .int .i64 c1, .int .i64 c2, .int .i64 c3] 27)).alloc (.cells #[.int .i64 0, .int .i64 0, .int .i64 0, .int .i64 0, .int .i64 0, .int .i64 0] 56)).alloc (.cells #[.int .i64 x, .int .i64 y, .int .i64 0, .int .i64 0, .int .i64 0, .int .i64 0] 56)).drew = .ok (.int .i64 4) W2 ∧
      W2.cell? ⟨w.heap.size + 1 + 1, 0, none⟩ = some (.int .i64 x) ∧ W2.cell? ⟨w.heap.size + 1 + 1, 1, none⟩ = some (.int .i64 y) ∧ W2.cell? ⟨w.heap.size + 1 + 1, 2, none⟩ = some (.int .i64 c0) ∧ W2.cell? ⟨w.heap.size + 1 + 1, 3, none⟩ = some (.int .i64 c1) ∧ W2.cell? ⟨w.heap.size + 1 + 1, 4, none⟩ = some (.int .i64 c2) ∧ W2.cell? ⟨w.heap.size + 1 + 1, 5, none⟩ = some (.int .i64 c3) ∧ W2.heap[w.heap.size + 1]? = some (.cells #[.int .i64 0, .int .i64 0, .int .i64 0, .int .i64 0, .int .i64 0, .int .i64 0] 56) ∧ Hid (Below w.heap.size w W2) := by
    obtain ⟨f1, f2, hD⟩ := alloc3 w (.cells #[.int .i64 c0, .int .i64 c1, .int .i64 c2, .int .i64 c3] 27) (.cells #[.int .i64 0, .int .i64 0, .int .i64 0, .int .i64 0, .int .i64 0, .int .i64 0] 56) (.cells #[.int .i64 x, .int .i64 y, .int .i64 0, .int .i64 0, .int .i64 0, .int .i64 0] 56)
    have hb := setRow_block hD #[.int .i64 x, .int .i64 y, .int .i64 c0, .int .i64 c1, .int .i64 c2, .int .i64 c3]
    refine ⟨_, copy_into _ _ _ 0 x y 0 0 0 0 c0 c1 c2 c3 0 hD (cell_of_block f1 rfl) (cell_of_block f1 rfl) (cell_of_block f1 rfl) (cell_of_block f1 rfl), cell_of_block hb rfl, cell_of_block hb rfl, cell_of_block hb rfl, cell_of_block hb rfl, cell_of_block hb rfl, cell_of_block hb rfl, ?_, ?_⟩
    · rw [setRow_other _ _ _ _ (by omega)]; exact f2
    · exact below_setRow ((((((Below.refl _ _).alloc (Nat.le_refl _) _).alloc (by simp) _).alloc (by simp; omega) _)).drew) (by omega) _
  go_enter Try.func25, Try.ntmps25
  go_wp2
  go_region
  have hlt : w.heap.size + 1 < W2.heap.size := by
    rcases Nat.lt_or_ge (w.heap.size + 1) W2.heap.size with h | h
    · exact h
    · rw [Array.getElem?_eq_none h] at hs; cases hs
  have k0 := cell_of_block (i := 0) hs rfl
  have k1 := cell_of_block (i := 1) hs rfl
  have k2 := cell_of_block (i := 2) hs rfl
  have k3 := cell_of_block (i := 3) hs rfl
  have k4 := cell_of_block (i := 4) hs rfl
  have k5 := cell_of_block (i := 5) hs rfl
  have l0 := frozen_of_block (i := 0) hs
  have l1 := frozen_of_block (i := 1) hs
  have l2 := frozen_of_block (i := 2) hs
  have l3 := frozen_of_block (i := 3) hs
  have l4 := frozen_of_block (i := 4) hs
  have l5 := frozen_of_block (i := 5) hs
  clear h
  have HS : Hid (W2.heap[w.heap.size + 1]? = some (.cells #[.int .i64 0, .int .i64 0, .int .i64 0, .int .i64 0, .int .i64 0, .int .i64 0] 56)) := hs
  clear hs
  go_wp2
  refine bodyPost_ret (v := .agg #[.int .i64 x, .int .i64 y, .int .i64 c0, .int .i64 c1, .int .i64 c2, .int .i64 c3]) ?_ rfl ⟨rfl, ?_⟩
  · simp [results, Try.results25, go_sem, k0, k1, k2, k3, k4, k5, hlt]
  · exact (((((HB.out.setCell (p := ⟨_, _, none⟩) (by simp) _).setCell (p := ⟨_, _, none⟩) (by simp) _).setCell (p := ⟨_, _, none⟩) (by simp) _).setCell (p := ⟨_, _, none⟩) (by simp) _).setCell (p := ⟨_, _, none⟩) (by simp) _).setCell (p := ⟨_, _, none⟩) (by simp) _
end Go.Proofs.Ytmlccnpondemiaa
namespace Go.Proofs.Ytmlccnpondemiaa
open Go.ChangeShapes Go.WideShapes Go.ChangeAt Go.RowKit
set_option linter.unusedVariables false
set_option linter.unusedSimpArgs false
def nsL (id F c0 c1 c2 c3 : Int) : List Int := [id, F, c0, c1, c2, c3]
def b16 (m : Int) : List Int := [m / 256, m % 256]
def b16s (l : List Int) : List Int := l.flatMap b16
def okN (m : Int) : Prop := 0 ≤ m ∧ m ≤ 65535
theorem b16s_len (l : List Int) : (b16s l).length = 2 * l.length := by
  induction l with
  | nil => rfl
  | cons x r ih => simp only [b16s, List.flatMap_cons, List.length_append, List.length_cons] at ih ⊢; rw [ih]; simp [b16]; omega
theorem b16s_take (l : List Int) (k : Nat) (m : Int) (h : l[k]? = some m) : b16s (l.take (k + 1)) = b16s (l.take k) ++ [m / 256, m % 256] := by
  rw [List.take_add_one, h]
  simp [b16s, b16]
theorem ixN (id F c0 c1 c2 c3 : Int) (k : Nat) (hk : k < 6) : ∃ m, (nsL id F c0 c1 c2 c3)[k]? = some m ∧ ∀ w : World, (Instr.index 56 (.agg #[.int .i64 id, .int .i64 F, .int .i64 c0, .int .i64 c1, .int .i64 c2, .int .i64 c3]) (.int .i64 (k : Int))).run Try.prog w = .ok (.int .i64 m) w := by
  match k, hk with
  | 0, _ => exact ⟨id, rfl, fun w => by kernel_rfl⟩
  | 1, _ => exact ⟨F, rfl, fun w => by kernel_rfl⟩
  | 2, _ => exact ⟨c0, rfl, fun w => by kernel_rfl⟩
  | 3, _ => exact ⟨c1, rfl, fun w => by kernel_rfl⟩
  | 4, _ => exact ⟨c2, rfl, fun w => by kernel_rfl⟩
  | 5, _ => exact ⟨c3, rfl, fun w => by kernel_rfl⟩
  | k + 6, h => omega
theorem make12 (w : World) : (Instr.makeSlice 30 (.int .i64 0) (.int .i64 12)).run Try.prog w = .ok (.slice (some ⟨w.heap.size, 0, none⟩) 0 12) (w.alloc (.cells #[.int .u8 0, .int .u8 0, .int .u8 0, .int .u8 0, .int .u8 0, .int .u8 0, .int .u8 0, .int .u8 0, .int .u8 0, .int .u8 0, .int .u8 0, .int .u8 0] 5)) := by kernel_rfl
theorem alloc_at (w : World) (o : Obj) : (w.alloc o).heap[w.heap.size]? = some o := by
  show (w.heap.push o)[w.heap.size]? = some o
  simp
theorem make12_own (w : World) (B : Nat) (hB : B ≤ w.heap.size) : Own B (w.alloc (.cells #[.int .u8 0, .int .u8 0, .int .u8 0, .int .u8 0, .int .u8 0, .int .u8 0, .int .u8 0, .int .u8 0, .int .u8 0, .int .u8 0, .int .u8 0, .int .u8 0] 5)) (.slice (some ⟨w.heap.size, 0, none⟩) 0 12) 0 (List.replicate 12 0) := by
  refine .inr ⟨w.heap.size, rfl, hB, ⟨?_, ?_⟩, by simp, by simp [maxLen]⟩
  · rw [alloc_at]; rfl
  · intro z hz; rw [List.mem_replicate] at hz; obtain ⟨_, rfl⟩ := hz; omega
theorem two_rd (w : World) (m : Int) (h : okN m) : Rd (w.alloc (.cells #[.int .u8 (m / 256), .int .u8 (m % 256)] 5)) (some ⟨w.heap.size, 0, none⟩) [m / 256, m % 256] := by
  have hb : Blk (w.alloc (.cells #[.int .u8 (m / 256), .int .u8 (m % 256)] 5)) w.heap.size [m / 256, m % 256] := ⟨alloc_at _ _, by
    intro z hz
    simp only [List.mem_cons, List.not_mem_nil, or_false] at hz
    obtain ⟨h0, h1⟩ := h
    rcases hz with rfl | rfl <;> omega⟩
  exact hb.rd 2
/-- What Bytes answers, the flags' number being F. -/
def BtPost (w : World) (ns : List Int) (e : Ending) (w' : World) : Prop :=
  ((∀ m ∈ ns, okN m) → ∃ g, e = .returned (.tuple #[.slice (some ⟨g, 0, none⟩) 12 12, .int .i64 0]) ∧ w.heap.size ≤ g ∧ Blk w' g (b16s ns)) ∧
  ((¬ ∀ m ∈ ns, okN m) → e = .returned (.tuple #[.slice none 0 0, .int .i64 2])) ∧ Below w.heap.size w w'
set_option maxHeartbeats 1000000 in
theorem bytes10_arg (id : Int) (rs : Bool) (op : Int) (aa tc rd ra ad cd : Bool) (rc : Int) (a1 a2 a3 a4 : Option Addr) (n1 n2 n3 n4 k1 k2 k3 k4 : Nat) (c0 c1 c2 c3 : Int) (w : World)
    (h : ¬ (0 ≤ op ∧ op ≤ 15 ∧ 0 ≤ rc ∧ rc ≤ 15)) :
    Calls Try.prog 10 #[.agg #[.int .u16 id, .bool rs, .int .i64 op, .bool aa, .bool tc, .bool rd, .bool ra, .bool ad, .bool cd, .int .i64 rc, .slice a1 n1 k1, .slice a2 n2 k2, .slice a3 n3 k3, .slice a4 n4 k4], .agg #[.int .i64 c0, .int .i64 c1, .int .i64 c2, .int .i64 c3]] w fun e w' => e = .returned (.tuple #[.slice none 0 0, .int .i64 2]) ∧ Below w.heap.size w w' := by
  have H : Hid (op < 0 ∨ (0 ≤ op ∧ 15 < op) ∨ (0 ≤ op ∧ op ≤ 15 ∧ rc < 0) ∨ (0 ≤ op ∧ op ≤ 15 ∧ 0 ≤ rc ∧ 15 < rc)) := by show _ ∨ _; omega
  clear h
  go_enter Try.func10, Try.ntmps10
  go_wp2_with fail
  refine (pack_no id rs op aa tc rd ra ad cd rc a1 a2 a3 a4 n1 n2 n3 n4 k1 k2 k3 k4 _ H.out).mono ?_
  rintro e w1 ⟨rfl, hb1⟩
  go_wp2
  go_ret2
  exact ⟨rfl, (((Below.refl _ _).alloc (Nat.le_refl _) _).alloc (by simp) _).trans (hb1.mono (by simp; omega))⟩
set_option maxHeartbeats 1000000 in
theorem bytes10 (id : Nat) (rs : Bool) (op : Nat) (aa tc rd ra ad cd : Bool) (rc : Nat) (a1 a2 a3 a4 : Option Addr) (n1 n2 n3 n4 k1 k2 k3 k4 : Nat) (c0 c1 c2 c3 : Int) (w : World)
    (hi : id < 65536) (ho : op < 16) (hr : rc < 16) :
    Calls Try.prog 10 #[.agg #[.int .u16 (id : Int), .bool rs, .int .i64 (op : Int), .bool aa, .bool tc, .bool rd, .bool ra, .bool ad, .bool cd, .int .i64 (rc : Int), .slice a1 n1 k1, .slice a2 n2 k2, .slice a3 n3 k3, .slice a4 n4 k4], .agg #[.int .i64 c0, .int .i64 c1, .int .i64 c2, .int .i64 c3]] w fun e w' => BtPost w (nsL id (packN op rc rs aa tc rd ra ad cd : Nat) c0 c1 c2 c3) e w' := by
  have hP := packN_lt ho hr rs aa tc rd ra ad cd
  have KP := fun w' => pack_ok id rs op aa tc rd ra ad cd rc a1 a2 a3 a4 n1 n2 n3 n4 k1 k2 k3 k4 w' ho hr
  generalize packN op rc rs aa tc rd ra ad cd = F at *
  obtain ⟨ns, hns⟩ : ∃ ns, ns = nsL id F c0 c1 c2 c3 := ⟨_, rfl⟩
  have IX := fun k hk => ixN id F c0 c1 c2 c3 k hk
  rw [← hns] at IX ⊢
  have HNL : Hid (ns.length = 6) := by rw [hns]; rfl
  clear hns
  have KP' : ∀ w', Hid (Calls Try.prog 24 _ w' _) := KP
  clear KP
  have hmk := make12
  go_enter Try.func10, Try.ntmps10
  go_wp2_with fail
  refine (KP' _).out.mono ?_
  rintro e w1 ⟨rfl, hb1⟩
  have HB1 : Hid (Below w.heap.size w w1 ∧ w.heap.size + 1 + 1 ≤ w1.heap.size) := ⟨(((Below.refl _ _).alloc (Nat.le_refl _) _).alloc (by simp) _).trans (hb1.mono (by simp; omega)), by have := hb1.size; simpa using this⟩
  have hlt : w.heap.size < w1.heap.size := by have := HB1.out.2; omega
  have hlt2 : w.heap.size + 1 < w1.heap.size := by have := HB1.out.2; omega
  have m0 : w1.cell? ⟨w.heap.size, 0, none⟩ = some (.int .u16 id) := (hb1.cell (p := ⟨w.heap.size, 0, none⟩) (by simp; omega)).trans (by simp)
  have g0 : w1.cell? ⟨w.heap.size + 1, 0, none⟩ = some (.int .i64 c0) := (hb1.cell (p := ⟨w.heap.size + 1, 0, none⟩) (by simp)).trans (by simp)
  have g1 : w1.cell? ⟨w.heap.size + 1, 1, none⟩ = some (.int .i64 c1) := (hb1.cell (p := ⟨w.heap.size + 1, 1, none⟩) (by simp)).trans (by simp)
  have g2 : w1.cell? ⟨w.heap.size + 1, 2, none⟩ = some (.int .i64 c2) := (hb1.cell (p := ⟨w.heap.size + 1, 2, none⟩) (by simp)).trans (by simp)
  have g3 : w1.cell? ⟨w.heap.size + 1, 3, none⟩ = some (.int .i64 c3) := (hb1.cell (p := ⟨w.heap.size + 1, 3, none⟩) (by simp)).trans (by simp)
  clear hb1
  go_wp2_with fail
  refine (together_any id F c0 c1 c2 c3 _).mono ?_
  rintro e w2 ⟨rfl, hb2⟩
  have HS2 : Hid (Own w1.heap.size w2 (.slice (some ⟨w1.heap.size, 0, none⟩) 0 12) 0 (List.replicate 12 0) ∧ Below w.heap.size w w2 ∧ w.heap.size ≤ w1.heap.size ∧ w1.heap.size ≤ w2.heap.size) := ⟨(make12_own w1 _ (Nat.le_refl _)).below hb2, (HB1.out.1.alloc HB1.out.1.size _).trans (hb2.mono (by have := HB1.out.1.size; simp; omega)), HB1.out.1.size, by have := hb2.size; simp at this; omega⟩
  clear hb2 m0 g0 g1 g2 g3
  go_wp2_with fail
  go_loopw [8, 28] (fun v y wr => ∃ k : Nat, k ≤ 6 ∧ y = .int .i64 (k : Int) ∧ Hid (∃ zs, Own w1.heap.size wr v (2 * k) zs ∧ zs.length = 12 ∧ zs.take (2 * k) = b16s (ns.take k)) ∧ Hid (∀ m ∈ ns.take k, okN m) ∧ Hid (Below w.heap.size w wr ∧ w1.heap.size ≤ wr.heap.size)) (fun _ y _ => 6 - (intOf y).toNat)
  case atStart => exact ⟨0, by omega, rfl, ⟨_, HS2.out.1, by simp, rfl⟩, by intro m hm; simp at hm, HS2.out.2.1, HS2.out.2.2.2⟩
  case round =>
    obtain ⟨k, hk, rfl, HO, HK, HW⟩ := hrel
    by_cases hlt : k < 6
    · have hlt' : (k : Int) < 6 := by omega
      obtain ⟨m, hm, ix⟩ := IX k hlt
      have HM : Hid (ns[k]? = some m) := hm
      clear hm
      by_cases hok : okN m
      · obtain ⟨zs, hO, hZ, hT⟩ := HO.out
        have hnb : Below wr.heap.size wr (wr.alloc (.cells #[.int .u8 (m / 256), .int .u8 (m % 256)] 5)) := (Below.refl _ _).alloc (Nat.le_refl _) _
        have HO2 : Hid (Own w1.heap.size (wr.alloc (.cells #[.int .u8 (m / 256), .int .u8 (m % 256)] 5)) u8 (2 * k) zs) := hO.below hnb
        have HR2 : Hid (Rd (wr.alloc (.cells #[.int .u8 (m / 256), .int .u8 (m % 256)] 5)) (some ⟨wr.heap.size, 0, none⟩) [m / 256, m % 256]) := two_rd wr m hok
        have HB2 : Hid (Below w.heap.size w (wr.alloc (.cells #[.int .u8 (m / 256), .int .u8 (m % 256)] 5)) ∧ w1.heap.size ≤ (wr.alloc (.cells #[.int .u8 (m / 256), .int .u8 (m % 256)] 5)).heap.size) := ⟨HW.out.1.trans (hnb.mono HW.out.1.size), by have := HW.out.2; simp; omega⟩
        have HT : Hid (zs.length = 12 ∧ zs.take (2 * k) = b16s (ns.take k)) := ⟨hZ, hT⟩
        have HKK : Hid (okN m) := hok
        have h0 := hok.1
        have h1 := hok.2
        clear hO hZ hT hok hnb
        go_wp2_with fail
        refine (put16_yes m _ h0 h1).mono ?_
        rintro e w3 ⟨rfl, rfl⟩
        go_wp2_with (at_builtin; refine wpList_append_fitB _ rfl _ _ rfl w1.heap.size _ (2 * k) zs rfl HO2.out (some ⟨wr.heap.size, 0, none⟩) 2 2 [m / 256, m % 256] rfl HR2.out rfl (by omega) HB2.out.2 ?_; intro v' w' ys' hO' hT' hG' hF'; have HB3 : Hid (Below w.heap.size w w' ∧ w1.heap.size ≤ w'.heap.size) := ⟨HB2.out.1.grown hG' HB2.out.1.size (fun g hg => Nat.le_trans HS2.out.2.2.1 (HO2.out.lt g hg)), Nat.le_trans HB2.out.2 hG'.size⟩; clear hG')
        refine ⟨⟨k + 1, by omega, by go_num, ⟨ys', ?_, ?_, ?_⟩, ?_, HB3.out⟩, by simp [intOf]; omega⟩
        · have := hO'.out
          rw [show 2 * (k + 1) = 2 * k + 2 by omega]; exact this
        · rw [hF'.out (by rw [HT.out.1]; omega), HT.out.1]
        · rw [b16s_take ns k m HM.out, ← HT.out.2, ← hT'.out]; rfl
        · intro x hx
          rw [List.take_add_one, HM.out] at hx
          rcases List.mem_append.1 hx with hx | hx
          · exact HK.out x hx
          · simp at hx; subst hx; exact HKK.out
      · have HNK : Hid (¬ ∀ x ∈ ns, okN x) := fun h => hok (h m (List.mem_of_getElem? HM.out))
        have hno : m < 0 ∨ (0 ≤ m ∧ 65535 < m) := by unfold okN at hok; omega
        have HNO : Hid (m < 0 ∨ (0 ≤ m ∧ 65535 < m)) := hno
        clear hno hok
        go_wp2_with fail
        refine (put16_no m _ HNO.out).mono ?_
        rintro e w3 ⟨rfl, rfl⟩
        go_wp2
        go_ret2
        exact ⟨fun h => absurd h HNK.out, fun _ => rfl, HW.out.1⟩
    · obtain rfl : k = 6 := by omega
      obtain ⟨zs, hO, hZ, hT⟩ := HO.out
      have e6 : ns.take 6 = ns := List.take_of_length_le (by rw [HNL.out]; exact Nat.le_refl _)
      rw [e6] at hT
      have HK6 : Hid (∀ x ∈ ns, okN x) := by have := HK.out; rw [e6] at this; exact this
      have hz : zs = b16s ns := by rw [← hT]; exact (List.take_of_length_le (by rw [hZ]; exact Nat.le_refl _)).symm
      subst hz
      rcases hO with ⟨_, h, _⟩ | ⟨g, hv, hg, hblk, _, _⟩
      · omega
      · rw [hZ] at hv
        subst hv
        have HG : Hid (w.heap.size ≤ g ∧ Blk wr g (b16s ns)) := ⟨Nat.le_trans HS2.out.2.2.1 hg, hblk⟩
        clear hblk hg hT e6 hZ
        go_wp2
        go_ret2
        exact ⟨fun _ => ⟨g, rfl, HG.out.1, HG.out.2⟩, fun h => absurd HK6.out h, HW.out.1⟩
end Go.Proofs.Ytmlccnpondemiaa
namespace Go.Proofs.Ytmlccnpondemiaa
open Go.ChangeShapes Go.WideShapes Go.ChangeAt Go.RowKit
set_option linter.unusedVariables false
set_option linter.unusedSimpArgs false
theorem block_lt {W : World} {b : Nat} {o : Obj} (h : W.heap[b]? = some o) : b < W.heap.size := by
  rcases Nat.lt_or_ge b W.heap.size with h1 | h1
  · exact h1
  · rw [Array.getElem?_eq_none h1] at h; cases h
theorem block_alloc {W : World} {b : Nat} {o : Obj} (h : W.heap[b]? = some o) (x : Obj) : (W.alloc x).heap[b]? = some o := (Below.heap_alloc W x b (block_lt h)).trans h
end Go.Proofs.Ytmlccnpondemiaa
namespace Go.Proofs.Ytmlccnpondemiaa
open Go.ChangeShapes Go.WideShapes Go.ChangeAt Go.RowKit
set_option linter.unusedVariables false
set_option linter.unusedSimpArgs false
/-- Two lists are told the same by f, whatever is made besides. -/
def Sames (f : Nat) (w : World) (x y : Value) : Prop := ∀ W, Below w.heap.size w W → Calls Try.prog f #[x, y] W fun e w' => e = .returned (.bool true) ∧ Below W.heap.size W w'
set_option maxRecDepth 100000 in
set_option maxHeartbeats 4000000 in
theorem sameM (id : Int) (rs : Bool) (op : Int) (aa tc rd ra ad cd : Bool) (rc : Int) (a1 a2 a3 a4 d1 d2 d3 d4 : Option Addr) (n1 n2 n3 n4 c1 c2 c3 c4 m1 m2 m3 m4 k1 k2 k3 k4 : Nat) (w : World)
    (h1 : Sames 33 w (.slice a1 n1 c1) (.slice d1 m1 k1)) (h2 : Sames 34 w (.slice a2 n2 c2) (.slice d2 m2 k2)) (h3 : Sames 34 w (.slice a3 n3 c3) (.slice d3 m3 k3)) (h4 : Sames 34 w (.slice a4 n4 c4) (.slice d4 m4 k4)) :
    Calls Try.prog 16 #[.agg #[.int .u16 id, .bool rs, .int .i64 op, .bool aa, .bool tc, .bool rd, .bool ra, .bool ad, .bool cd, .int .i64 rc, .slice a1 n1 c1, .slice a2 n2 c2, .slice a3 n3 c3, .slice a4 n4 c4], .agg #[.int .u16 id, .bool rs, .int .i64 op, .bool aa, .bool tc, .bool rd, .bool ra, .bool ad, .bool cd, .int .i64 rc, .slice d1 m1 k1, .slice d2 m2 k2, .slice d3 m3 k3, .slice d4 m4 k4]] w fun e w' => e = .returned (.bool true) ∧ Below w.heap.size w w' := by
  have H1 : Hid (Sames 33 w (.slice a1 n1 c1) (.slice d1 m1 k1)) := h1
  have H2 : Hid (Sames 34 w (.slice a2 n2 c2) (.slice d2 m2 k2)) := h2
  have H3 : Hid (Sames 34 w (.slice a3 n3 c3) (.slice d3 m3 k3)) := h3
  have H4 : Hid (Sames 34 w (.slice a4 n4 c4) (.slice d4 m4 k4)) := h4
  clear h1 h2 h3 h4
  go_enter Try.func16, Try.ntmps16
  go_wp2_with fail
  obtain ⟨W0, hW0⟩ : ∃ W0, W0 = (w.alloc (.cells #[.int .u16 id, .bool rs, .int .i64 op, .bool aa, .bool tc, .bool rd, .bool ra, .bool ad, .bool cd, .int .i64 rc, .slice a1 n1 c1, .slice a2 n2 c2, .slice a3 n3 c3, .slice a4 n4 c4] 26)).alloc (.cells #[.int .u16 id, .bool rs, .int .i64 op, .bool aa, .bool tc, .bool rd, .bool ra, .bool ad, .bool cd, .int .i64 rc, .slice d1 m1 k1, .slice d2 m2 k2, .slice d3 m3 k3, .slice d4 m4 k4] 26) := ⟨_, rfl⟩
  rw [← hW0]
  have HB0 : Hid (Below w.heap.size w W0 ∧ W0.heap[w.heap.size]? = some (.cells #[.int .u16 id, .bool rs, .int .i64 op, .bool aa, .bool tc, .bool rd, .bool ra, .bool ad, .bool cd, .int .i64 rc, .slice a1 n1 c1, .slice a2 n2 c2, .slice a3 n3 c3, .slice a4 n4 c4] 26) ∧ W0.heap[w.heap.size + 1]? = some (.cells #[.int .u16 id, .bool rs, .int .i64 op, .bool aa, .bool tc, .bool rd, .bool ra, .bool ad, .bool cd, .int .i64 rc, .slice d1 m1 k1, .slice d2 m2 k2, .slice d3 m3 k3, .slice d4 m4 k4] 26)) := by
    rw [hW0]
    refine ⟨((Below.refl _ _).alloc (Nat.le_refl _) _).alloc (by simp) _, block_alloc (alloc_at _ _) _, ?_⟩
    have := alloc_at (w.alloc (.cells #[.int .u16 id, .bool rs, .int .i64 op, .bool aa, .bool tc, .bool rd, .bool ra, .bool ad, .bool cd, .int .i64 rc, .slice a1 n1 c1, .slice a2 n2 c2, .slice a3 n3 c3, .slice a4 n4 c4] 26)) (.cells #[.int .u16 id, .bool rs, .int .i64 op, .bool aa, .bool tc, .bool rd, .bool ra, .bool ad, .bool cd, .int .i64 rc, .slice d1 m1 k1, .slice d2 m2 k2, .slice d3 m3 k3, .slice d4 m4 k4] 26)
    simp only [World.size_alloc] at this
    exact this
  clear hW0
  refine (H1.out W0 HB0.out.1).mono ?_
  rintro e w1 ⟨rfl, hb1⟩
  have HB1 : Hid (Below w.heap.size w w1 ∧ w1.heap[w.heap.size]? = some (.cells #[.int .u16 id, .bool rs, .int .i64 op, .bool aa, .bool tc, .bool rd, .bool ra, .bool ad, .bool cd, .int .i64 rc, .slice a1 n1 c1, .slice a2 n2 c2, .slice a3 n3 c3, .slice a4 n4 c4] 26) ∧ w1.heap[w.heap.size + 1]? = some (.cells #[.int .u16 id, .bool rs, .int .i64 op, .bool aa, .bool tc, .bool rd, .bool ra, .bool ad, .bool cd, .int .i64 rc, .slice d1 m1 k1, .slice d2 m2 k2, .slice d3 m3 k3, .slice d4 m4 k4] 26)) := ⟨HB0.out.1.trans (hb1.mono HB0.out.1.size), (hb1.block _ (block_lt HB0.out.2.1)).trans HB0.out.2.1, (hb1.block _ (block_lt HB0.out.2.2)).trans HB0.out.2.2⟩
  clear hb1
  have p1 := block_lt HB1.out.2.1
  have q1 := block_lt HB1.out.2.2
  have x1 : w1.cell? ⟨w.heap.size, 11, none⟩ = some (.slice a2 n2 c2) := cell_of_block HB1.out.2.1 rfl
  have y1 : w1.cell? ⟨w.heap.size + 1, 11, none⟩ = some (.slice d2 m2 k2) := cell_of_block HB1.out.2.2 rfl
  go_wp2_with fail
  refine (H2.out w1 HB1.out.1).mono ?_
  rintro e w2 ⟨rfl, hb2⟩
  have HB2 : Hid (Below w.heap.size w w2 ∧ w2.heap[w.heap.size]? = some (.cells #[.int .u16 id, .bool rs, .int .i64 op, .bool aa, .bool tc, .bool rd, .bool ra, .bool ad, .bool cd, .int .i64 rc, .slice a1 n1 c1, .slice a2 n2 c2, .slice a3 n3 c3, .slice a4 n4 c4] 26) ∧ w2.heap[w.heap.size + 1]? = some (.cells #[.int .u16 id, .bool rs, .int .i64 op, .bool aa, .bool tc, .bool rd, .bool ra, .bool ad, .bool cd, .int .i64 rc, .slice d1 m1 k1, .slice d2 m2 k2, .slice d3 m3 k3, .slice d4 m4 k4] 26)) := ⟨HB1.out.1.trans (hb2.mono HB1.out.1.size), (hb2.block _ (block_lt HB1.out.2.1)).trans HB1.out.2.1, (hb2.block _ (block_lt HB1.out.2.2)).trans HB1.out.2.2⟩
  clear hb2
  have p2 := block_lt HB2.out.2.1
  have q2 := block_lt HB2.out.2.2
  have x2 : w2.cell? ⟨w.heap.size, 12, none⟩ = some (.slice a3 n3 c3) := cell_of_block HB2.out.2.1 rfl
  have y2 : w2.cell? ⟨w.heap.size + 1, 12, none⟩ = some (.slice d3 m3 k3) := cell_of_block HB2.out.2.2 rfl
  go_wp2_with fail
  refine (H3.out w2 HB2.out.1).mono ?_
  rintro e w3 ⟨rfl, hb3⟩
  have HB3 : Hid (Below w.heap.size w w3 ∧ w3.heap[w.heap.size]? = some (.cells #[.int .u16 id, .bool rs, .int .i64 op, .bool aa, .bool tc, .bool rd, .bool ra, .bool ad, .bool cd, .int .i64 rc, .slice a1 n1 c1, .slice a2 n2 c2, .slice a3 n3 c3, .slice a4 n4 c4] 26) ∧ w3.heap[w.heap.size + 1]? = some (.cells #[.int .u16 id, .bool rs, .int .i64 op, .bool aa, .bool tc, .bool rd, .bool ra, .bool ad, .bool cd, .int .i64 rc, .slice d1 m1 k1, .slice d2 m2 k2, .slice d3 m3 k3, .slice d4 m4 k4] 26)) := ⟨HB2.out.1.trans (hb3.mono HB2.out.1.size), (hb3.block _ (block_lt HB2.out.2.1)).trans HB2.out.2.1, (hb3.block _ (block_lt HB2.out.2.2)).trans HB2.out.2.2⟩
  clear hb3
  have p3 := block_lt HB3.out.2.1
  have q3 := block_lt HB3.out.2.2
  have x3 : w3.cell? ⟨w.heap.size, 13, none⟩ = some (.slice a4 n4 c4) := cell_of_block HB3.out.2.1 rfl
  have y3 : w3.cell? ⟨w.heap.size + 1, 13, none⟩ = some (.slice d4 m4 k4) := cell_of_block HB3.out.2.2 rfl
  go_wp2_with fail
  refine (H4.out w3 HB3.out.1).mono ?_
  rintro e w4 ⟨rfl, hb4⟩
  have HB4 : Hid (Below w.heap.size w w4 ∧ w4.heap[w.heap.size]? = some (.cells #[.int .u16 id, .bool rs, .int .i64 op, .bool aa, .bool tc, .bool rd, .bool ra, .bool ad, .bool cd, .int .i64 rc, .slice a1 n1 c1, .slice a2 n2 c2, .slice a3 n3 c3, .slice a4 n4 c4] 26) ∧ w4.heap[w.heap.size + 1]? = some (.cells #[.int .u16 id, .bool rs, .int .i64 op, .bool aa, .bool tc, .bool rd, .bool ra, .bool ad, .bool cd, .int .i64 rc, .slice d1 m1 k1, .slice d2 m2 k2, .slice d3 m3 k3, .slice d4 m4 k4] 26)) := ⟨HB3.out.1.trans (hb4.mono HB3.out.1.size), (hb4.block _ (block_lt HB3.out.2.1)).trans HB3.out.2.1, (hb4.block _ (block_lt HB3.out.2.2)).trans HB3.out.2.2⟩
  clear hb4
  go_wp2
  go_ret
  exact ⟨rfl, HB4.out.1⟩
end Go.Proofs.Ytmlccnpondemiaa
namespace Go.Proofs.Ytmlccnpondemiaa
open Go.ChangeShapes Go.WideShapes Go.ChangeAt Go.RowKit
set_option linter.unusedVariables false
set_option linter.unusedSimpArgs false
set_option maxHeartbeats 2000000 in
theorem samer45 (x y : RA) (r : Rec) (w : World) (h1 : RRd w x r) (h2 : RRd w y r) :
    Calls Try.prog 45 #[.agg (recCells x r).toArray, .agg (recCells y r).toArray] w fun e w' => e = .returned (.bool true) ∧ Below w.heap.size w w' := by
  have KD : ∀ W, Below w.heap.size w W → Hid (Calls Try.prog 53 #[.agg #[.slice x.d.p1.a x.d.p1.n x.d.p1.c, .slice x.d.p2.a x.d.p2.n x.d.p2.c, .slice x.d.p3.a x.d.p3.n x.d.p3.c, .slice x.d.p4.a x.d.p4.n x.d.p4.c], .agg #[.slice y.d.p1.a y.d.p1.n y.d.p1.c, .slice y.d.p2.a y.d.p2.n y.d.p2.c, .slice y.d.p3.a y.d.p3.n y.d.p3.c, .slice y.d.p4.a y.d.p4.n y.d.p4.c]] W fun e w' => e = .returned (.bool true) ∧ Hid (Below W.heap.size W w')) := fun W hb => samedata_yes x.d y.d r.d W (h1.2.below hb) (h2.2.below hb)
  have hnn : x.o.n = y.o.n := h1.1.len.symm.trans h2.1.len
  have KN : ∀ W, Below w.heap.size w W → Hid (Calls Try.prog 52 #[.slice x.o.a x.o.n x.o.c, .slice y.o.a x.o.n y.o.c] W fun e w' => e = .returned (.bool true) ∧ Hid (Below W.heap.size W w')) := fun W hb => sameN_yes x.o.a y.o.a x.o.n x.o.c y.o.c r.ow W (h1.1.rd.below hb) (h2.1.rd.below hb) h1.1.len (Nat.le_trans h1.1.cap.1 h1.1.cap.2)
  clear h1 h2
  obtain ⟨⟨xa, xn, xc⟩, ⟨⟨xa1, xn1, xc1⟩, ⟨xa2, xn2, xc2⟩, ⟨xa3, xn3, xc3⟩, ⟨xa4, xn4, xc4⟩⟩⟩ := x
  obtain ⟨⟨ya, yn, yc⟩, ⟨⟨ya1, yn1, yc1⟩, ⟨ya2, yn2, yc2⟩, ⟨ya3, yn3, yc3⟩, ⟨ya4, yn4, yc4⟩⟩⟩ := y
  obtain ⟨ow, t, cl, tt, d⟩ := r
  simp only at KD KN hnn
  subst hnn
  show Calls Try.prog 45 #[.agg #[.slice xa xn xc, .int .u16 (t : Int), .int .u16 (cl : Int), .int .u32 (tt : Int), .slice xa1 xn1 xc1, .slice xa2 xn2 xc2, .slice xa3 xn3 xc3, .slice xa4 xn4 xc4], .agg #[.slice ya xn yc, .int .u16 (t : Int), .int .u16 (cl : Int), .int .u32 (tt : Int), .slice ya1 yn1 yc1, .slice ya2 yn2 yc2, .slice ya3 yn3 yc3, .slice ya4 yn4 yc4]] w fun e w' => e = .returned (.bool true) ∧ Below w.heap.size w w'
  go_enter Try.func45, Try.ntmps45
  go_wp2_with fail
  refine (KN _ (((Below.refl _ _).alloc (Nat.le_refl _) _).alloc (by simp) _)).out.mono ?_
  rintro e w2 ⟨rfl, hb2'⟩
  have hb2 := hb2'.out
  have HB2 : Hid (Below w.heap.size w w2 ∧ w2.heap[w.heap.size]? = some (.cells #[.slice xa xn xc, .int .u16 (t : Int), .int .u16 (cl : Int), .int .u32 (tt : Int), .slice xa1 xn1 xc1, .slice xa2 xn2 xc2, .slice xa3 xn3 xc3, .slice xa4 xn4 xc4] 79) ∧ w2.heap[w.heap.size + 1]? = some (.cells #[.slice ya xn yc, .int .u16 (t : Int), .int .u16 (cl : Int), .int .u32 (tt : Int), .slice ya1 yn1 yc1, .slice ya2 yn2 yc2, .slice ya3 yn3 yc3, .slice ya4 yn4 yc4] 79)) := by
    refine ⟨(((Below.refl _ _).alloc (Nat.le_refl _) _).alloc (by simp) _).trans (hb2.mono (by simp; omega)), (hb2.block _ (by simp; omega)).trans (block_alloc (alloc_at _ _) _), (hb2.block _ (by simp)).trans ?_⟩
    have := alloc_at (w.alloc (.cells #[.slice xa xn xc, .int .u16 (t : Int), .int .u16 (cl : Int), .int .u32 (tt : Int), .slice xa1 xn1 xc1, .slice xa2 xn2 xc2, .slice xa3 xn3 xc3, .slice xa4 xn4 xc4] 79)) (.cells #[.slice ya xn yc, .int .u16 (t : Int), .int .u16 (cl : Int), .int .u32 (tt : Int), .slice ya1 yn1 yc1, .slice ya2 yn2 yc2, .slice ya3 yn3 yc3, .slice ya4 yn4 yc4] 79)
    simp only [World.size_alloc] at this
    exact this
  clear hb2 hb2' KN
  have p0 := block_lt HB2.out.2.1
  have p1 := block_lt HB2.out.2.2
  have u0 : w2.cell? ⟨w.heap.size, 0, none⟩ = some (.slice xa xn xc) := cell_of_block HB2.out.2.1 rfl
  have u1 : w2.cell? ⟨w.heap.size, 1, none⟩ = some (.int .u16 (t : Int)) := cell_of_block HB2.out.2.1 rfl
  have u2 : w2.cell? ⟨w.heap.size, 2, none⟩ = some (.int .u16 (cl : Int)) := cell_of_block HB2.out.2.1 rfl
  have u3 : w2.cell? ⟨w.heap.size, 3, none⟩ = some (.int .u32 (tt : Int)) := cell_of_block HB2.out.2.1 rfl
  have u4 : w2.cell? ⟨w.heap.size, 4, none⟩ = some (.slice xa1 xn1 xc1) := cell_of_block HB2.out.2.1 rfl
  have u5 : w2.cell? ⟨w.heap.size, 5, none⟩ = some (.slice xa2 xn2 xc2) := cell_of_block HB2.out.2.1 rfl
  have u6 : w2.cell? ⟨w.heap.size, 6, none⟩ = some (.slice xa3 xn3 xc3) := cell_of_block HB2.out.2.1 rfl
  have u7 : w2.cell? ⟨w.heap.size, 7, none⟩ = some (.slice xa4 xn4 xc4) := cell_of_block HB2.out.2.1 rfl
  have v0 : w2.cell? ⟨w.heap.size + 1, 0, none⟩ = some (.slice ya xn yc) := cell_of_block HB2.out.2.2 rfl
  have v1 : w2.cell? ⟨w.heap.size + 1, 1, none⟩ = some (.int .u16 (t : Int)) := cell_of_block HB2.out.2.2 rfl
  have v2 : w2.cell? ⟨w.heap.size + 1, 2, none⟩ = some (.int .u16 (cl : Int)) := cell_of_block HB2.out.2.2 rfl
  have v3 : w2.cell? ⟨w.heap.size + 1, 3, none⟩ = some (.int .u32 (tt : Int)) := cell_of_block HB2.out.2.2 rfl
  have v4 : w2.cell? ⟨w.heap.size + 1, 4, none⟩ = some (.slice ya1 yn1 yc1) := cell_of_block HB2.out.2.2 rfl
  have v5 : w2.cell? ⟨w.heap.size + 1, 5, none⟩ = some (.slice ya2 yn2 yc2) := cell_of_block HB2.out.2.2 rfl
  have v6 : w2.cell? ⟨w.heap.size + 1, 6, none⟩ = some (.slice ya3 yn3 yc3) := cell_of_block HB2.out.2.2 rfl
  have v7 : w2.cell? ⟨w.heap.size + 1, 7, none⟩ = some (.slice ya4 yn4 yc4) := cell_of_block HB2.out.2.2 rfl
  go_wp2_with fail
  refine (KD _ HB2.out.1).out.mono ?_
  rintro e w3 ⟨rfl, hb3⟩
  go_wp2
  go_ret
  exact ⟨rfl, HB2.out.1.trans (hb3.out.mono HB2.out.1.size)⟩
set_option maxHeartbeats 2000000 in
theorem sames34 (a b : Option Addr) (n c d : Nat) (rs : List Rec) (w : World) (h1 : RdR w a rs) (h2 : RdR w b rs) (hl : rs.length = n) (hn : n ≤ 9223372036854775807) : Sames 34 w (.slice a n c) (.slice b n d) := by
  intro W hW
  have HX : Hid (RdR W a rs) := h1.below hW
  have HY : Hid (RdR W b rs) := h2.below hW
  have HLs : Hid (rs.length = n) := hl
  clear h1 h2 hW hl
  go_enter Try.func34, Try.ntmps34
  go_wp2_with fail
  go_loopw [5] (fun y wr => ∃ k : Nat, k ≤ n ∧ y = .int .i64 (k : Int) ∧ Hid (Below W.heap.size W wr)) (fun y _ => n - (intOf y).toNat)
  case atStart => exact ⟨0, by omega, rfl, Below.refl _ _⟩
  case round =>
    obtain ⟨k, hk, rfl, HB⟩ := hrel
    by_cases hlt : k < n
    · have hlt' : (k : Int) < (n : Int) := by omega
      have hks : k < rs.length := by rw [HLs.out]; exact hlt
      obtain ⟨b1, o1, rfl, q1, x, rx, ok1⟩ := (HX.out.below HB.out).at k hks
      obtain ⟨b2, o2, rfl, q2, y, ry, ok2⟩ := (HY.out.below HB.out).at k hks
      obtain ⟨r, hr⟩ : ∃ r, r = rs[k] := ⟨_, rfl⟩
      rw [← hr] at rx ry ok1 ok2
      have KL : ∀ V, Below wr.heap.size wr V → Hid (Calls Try.prog 45 #[.agg (recCells x r).toArray, .agg (recCells y r).toArray] V fun e w' => e = .returned (.bool true) ∧ Below V.heap.size V w') := fun V hb => samer45 x y r V (ok1.below hb) (ok2.below hb)
      clear hr ok1 ok2
      obtain ⟨⟨xa, xn, xc⟩, ⟨⟨xa1, xn1, xc1⟩, ⟨xa2, xn2, xc2⟩, ⟨xa3, xn3, xc3⟩, ⟨xa4, xn4, xc4⟩⟩⟩ := x
      obtain ⟨⟨ya, yn, yc⟩, ⟨⟨ya1, yn1, yc1⟩, ⟨ya2, yn2, yc2⟩, ⟨ya3, yn3, yc3⟩, ⟨ya4, yn4, yc4⟩⟩⟩ := y
      obtain ⟨ow, t, cl, tt, dd⟩ := r
      have KL' : ∀ V, Below wr.heap.size wr V → Hid (Calls Try.prog 45 #[.agg #[.slice xa xn xc, .int .u16 (t : Int), .int .u16 (cl : Int), .int .u32 (tt : Int), .slice xa1 xn1 xc1, .slice xa2 xn2 xc2, .slice xa3 xn3 xc3, .slice xa4 xn4 xc4], .agg #[.slice ya yn yc, .int .u16 (t : Int), .int .u16 (cl : Int), .int .u32 (tt : Int), .slice ya1 yn1 yc1, .slice ya2 yn2 yc2, .slice ya3 yn3 yc3, .slice ya4 yn4 yc4]] V fun e w' => e = .returned (.bool true) ∧ Below V.heap.size V w') := KL
      have KS : ∀ V, Below wr.heap.size wr V → V.cell? ⟨b1, o1 + k * 8, none⟩ = some (.slice xa xn xc) ∧ V.cell? ⟨b1, o1 + k * 8 + 1, none⟩ = some (.int .u16 (t : Int)) ∧ V.cell? ⟨b1, o1 + k * 8 + 2, none⟩ = some (.int .u16 (cl : Int)) ∧ V.cell? ⟨b1, o1 + k * 8 + 3, none⟩ = some (.int .u32 (tt : Int)) ∧ V.cell? ⟨b1, o1 + k * 8 + 4, none⟩ = some (.slice xa1 xn1 xc1) ∧ V.cell? ⟨b1, o1 + k * 8 + 5, none⟩ = some (.slice xa2 xn2 xc2) ∧ V.cell? ⟨b1, o1 + k * 8 + 6, none⟩ = some (.slice xa3 xn3 xc3) ∧ V.cell? ⟨b1, o1 + k * 8 + 7, none⟩ = some (.slice xa4 xn4 xc4) ∧ V.cell? ⟨b2, o2 + k * 8, none⟩ = some (.slice ya yn yc) ∧ V.cell? ⟨b2, o2 + k * 8 + 1, none⟩ = some (.int .u16 (t : Int)) ∧ V.cell? ⟨b2, o2 + k * 8 + 2, none⟩ = some (.int .u16 (cl : Int)) ∧ V.cell? ⟨b2, o2 + k * 8 + 3, none⟩ = some (.int .u32 (tt : Int)) ∧ V.cell? ⟨b2, o2 + k * 8 + 4, none⟩ = some (.slice ya1 yn1 yc1) ∧ V.cell? ⟨b2, o2 + k * 8 + 5, none⟩ = some (.slice ya2 yn2 yc2) ∧ V.cell? ⟨b2, o2 + k * 8 + 6, none⟩ = some (.slice ya3 yn3 yc3) ∧ V.cell? ⟨b2, o2 + k * 8 + 7, none⟩ = some (.slice ya4 yn4 yc4) := fun V hb => ⟨(hb.cell (p := ⟨_, _, none⟩) q1).trans (rx 0 (by omega)), (hb.cell (p := ⟨_, _, none⟩) q1).trans (rx 1 (by omega)), (hb.cell (p := ⟨_, _, none⟩) q1).trans (rx 2 (by omega)), (hb.cell (p := ⟨_, _, none⟩) q1).trans (rx 3 (by omega)), (hb.cell (p := ⟨_, _, none⟩) q1).trans (rx 4 (by omega)), (hb.cell (p := ⟨_, _, none⟩) q1).trans (rx 5 (by omega)), (hb.cell (p := ⟨_, _, none⟩) q1).trans (rx 6 (by omega)), (hb.cell (p := ⟨_, _, none⟩) q1).trans (rx 7 (by omega)), (hb.cell (p := ⟨_, _, none⟩) q2).trans (ry 0 (by omega)), (hb.cell (p := ⟨_, _, none⟩) q2).trans (ry 1 (by omega)), (hb.cell (p := ⟨_, _, none⟩) q2).trans (ry 2 (by omega)), (hb.cell (p := ⟨_, _, none⟩) q2).trans (ry 3 (by omega)), (hb.cell (p := ⟨_, _, none⟩) q2).trans (ry 4 (by omega)), (hb.cell (p := ⟨_, _, none⟩) q2).trans (ry 5 (by omega)), (hb.cell (p := ⟨_, _, none⟩) q2).trans (ry 6 (by omega)), (hb.cell (p := ⟨_, _, none⟩) q2).trans (ry 7 (by omega))⟩
      clear KL rx ry
      go_wp2_with fail
      go_region_held3 (fun V => V.cell? ⟨b1, o1 + k * 8, none⟩ = some (.slice xa xn xc) ∧ V.cell? ⟨b1, o1 + k * 8 + 1, none⟩ = some (.int .u16 (t : Int)) ∧ V.cell? ⟨b1, o1 + k * 8 + 2, none⟩ = some (.int .u16 (cl : Int)) ∧ V.cell? ⟨b1, o1 + k * 8 + 3, none⟩ = some (.int .u32 (tt : Int)) ∧ V.cell? ⟨b1, o1 + k * 8 + 4, none⟩ = some (.slice xa1 xn1 xc1) ∧ V.cell? ⟨b1, o1 + k * 8 + 5, none⟩ = some (.slice xa2 xn2 xc2) ∧ V.cell? ⟨b1, o1 + k * 8 + 6, none⟩ = some (.slice xa3 xn3 xc3) ∧ V.cell? ⟨b1, o1 + k * 8 + 7, none⟩ = some (.slice xa4 xn4 xc4) ∧ V.cell? ⟨b2, o2 + k * 8, none⟩ = some (.slice ya yn yc) ∧ V.cell? ⟨b2, o2 + k * 8 + 1, none⟩ = some (.int .u16 (t : Int)) ∧ V.cell? ⟨b2, o2 + k * 8 + 2, none⟩ = some (.int .u16 (cl : Int)) ∧ V.cell? ⟨b2, o2 + k * 8 + 3, none⟩ = some (.int .u32 (tt : Int)) ∧ V.cell? ⟨b2, o2 + k * 8 + 4, none⟩ = some (.slice ya1 yn1 yc1) ∧ V.cell? ⟨b2, o2 + k * 8 + 5, none⟩ = some (.slice ya2 yn2 yc2) ∧ V.cell? ⟨b2, o2 + k * 8 + 6, none⟩ = some (.slice ya3 yn3 yc3) ∧ V.cell? ⟨b2, o2 + k * 8 + 7, none⟩ = some (.slice ya4 yn4 yc4)) (first | exact KS _ HBw8.out | exact KS _ (Below.refl wr.heap.size wr).drew | exact KS _ (Below.refl wr.heap.size wr) | exact KS _ HBw8.out.drew) (first
        | (go_at_call 45; refine Calls.mono (KL' _ ?hb).out ?_; (case hb => first | exact (Below.refl wr.heap.size wr).drew | exact Below.refl wr.heap.size wr); rintro e w8 ⟨rfl, Hw8⟩; have HBw8 : Hid (Below wr.heap.size wr w8) := by first | exact (Below.refl wr.heap.size wr).drew.trans Hw8 | exact Hw8)
        | fail)
      all_goals go_wp2
      all_goals exact ⟨⟨k + 1, by omega, by go_num, HB.out.trans (HBw8.out.mono HB.out.size)⟩, by simp [intOf]; omega⟩
    · obtain rfl : k = n := by omega
      go_wp2
      go_ret
      exact ⟨rfl, HB.out⟩
end Go.Proofs.Ytmlccnpondemiaa
namespace Go.Proofs.Ytmlccnpondemiaa
open Go.ChangeShapes Go.WideShapes Go.ChangeAt Go.RowKit
set_option linter.unusedVariables false
set_option linter.unusedSimpArgs false
theorem set_ne (W : World) (a b : Addr) (u : Value) (h : ¬ b.block = a.block) : (W.setCell a u).cell? b = W.cell? b := World.cell?_of_block (w := W) (Below.heap_setCell W a u b.block h)
theorem put3 {w : World} {g : Nat} {a b c : Value} {t : TypeId} (h : w.heap[g]? = some (.cells #[a, b, c] t)) (x y z : Value) : (((w.setCell ⟨g, 0, none⟩ x).setCell ⟨g, 1, none⟩ y).setCell ⟨g, 2, none⟩ z).heap[g]? = some (.cells #[x, y, z] t) :=
  heap_set (heap_set (heap_set h 0 x) 1 y) 2 z
theorem put3_below (w : World) (g : Nat) (x y z : Value) : Below g w (((w.setCell ⟨g, 0, none⟩ x).setCell ⟨g, 1, none⟩ y).setCell ⟨g, 2, none⟩ z) :=
  (((Below.refl g w).setCell (p := ⟨g, 0, none⟩) (Nat.le_refl g) x).setCell (p := ⟨g, 1, none⟩) (Nat.le_refl g) y).setCell (p := ⟨g, 2, none⟩) (Nat.le_refl g) z
theorem put3_other (w : World) (g : Nat) (x y z : Value) (j : Nat) (h : j ≠ g) : (((w.setCell ⟨g, 0, none⟩ x).setCell ⟨g, 1, none⟩ y).setCell ⟨g, 2, none⟩ z).heap[j]? = w.heap[j]? := by
  rw [Below.heap_setCell _ _ _ _ h, Below.heap_setCell _ _ _ _ h, Below.heap_setCell _ _ _ _ h]
/-- A name, copied. -/
theorem copyn38 (s : Sl) (ow : List ByteArray) (w : World) (h : TRd w s ow) (hn : ow.length ≤ 8796093022000) :
    Calls Try.prog 38 #[.slice s.a s.n s.c] w fun e w' => ∃ s5 : Sl, e = .returned (.slice s5.a s5.n s5.c) ∧ Hid (Owx1 w.heap.size w' s5 ow ∧ Below w.heap.size w w') := by
  refine Calls.mono (copyN_any s.a s.c s.n ow 9223372036854775807 w h.rd h.len h.z63 (by have := h.len; omega)) ?_
  rintro e w' ⟨v, ys, rfl, H⟩
  obtain ⟨q1, q2, q3⟩ := H.out
  obtain ⟨ao, rfl, _⟩ := q1.shape
  exact ⟨⟨ao, _, _⟩, rfl, ⟨ys, q1, q2⟩, q3⟩
set_option maxHeartbeats 400000 in
theorem copyq22 (s : Sl) (nm : List ByteArray) (t cl : Nat) (w : World) (h : TRd w s nm) (hn : nm.length ≤ 8796093022000) :
    Calls Try.prog 22 #[.agg #[.slice s.a s.n s.c, .int .u16 (t : Int), .int .u16 (cl : Int)]] w fun e w' => ∃ s5 : Sl, e = .returned (.agg #[.slice s5.a s5.n s5.c, .int .u16 (t : Int), .int .u16 (cl : Int)]) ∧ Hid (Owx1 w.heap.size w' s5 nm ∧ Below w.heap.size w w') := by
  have KN : ∀ W, Below w.heap.size w W → Hid (Calls Try.prog 38 #[.slice s.a s.n s.c] W fun e w' => ∃ s5 : Sl, e = .returned (.slice s5.a s5.n s5.c) ∧ Hid (Owx1 W.heap.size w' s5 nm ∧ Below W.heap.size W w')) := fun W hb => copyn38 s nm W (h.below hb) hn
  clear h hn
  obtain ⟨xa, xn, xc⟩ := s
  simp only at KN ⊢
  obtain ⟨V, hV⟩ : ∃ V, V = (w.alloc (.cells #[.slice xa xn xc, .int .u16 (t : Int), .int .u16 (cl : Int)] 50)).alloc (.cells #[.slice none 0 0, .int .u16 0, .int .u16 0] 50) := ⟨_, rfl⟩
  have HV : Hid (Below w.heap.size w V ∧ V.heap[w.heap.size]? = some (.cells #[.slice xa xn xc, .int .u16 (t : Int), .int .u16 (cl : Int)] 50) ∧ V.heap[w.heap.size + 1]? = some (.cells #[.slice none 0 0, .int .u16 0, .int .u16 0] 50) ∧ V.heap.size = w.heap.size + 1 + 1) := by
    rw [hV]
    refine ⟨((Below.refl _ _).alloc (Nat.le_refl _) _).alloc (by simp) _, block_alloc (alloc_at _ _) _, ?_, by simp⟩
    have := alloc_at (w.alloc (.cells #[.slice xa xn xc, .int .u16 (t : Int), .int .u16 (cl : Int)] 50)) (.cells #[.slice none 0 0, .int .u16 0, .int .u16 0] 50)
    simp only [World.size_alloc] at this
    exact this
  have KS : ∀ W, Below V.heap.size V W → W.cell? ⟨w.heap.size, 0, none⟩ = some (.slice xa xn xc) ∧ W.cell? ⟨w.heap.size, 1, none⟩ = some (.int .u16 (t : Int)) ∧ W.cell? ⟨w.heap.size, 2, none⟩ = some (.int .u16 (cl : Int)) := fun W hb => by
    have m := (hb.block _ (block_lt HV.out.2.1)).trans HV.out.2.1
    exact ⟨cell_of_block m rfl, cell_of_block m rfl, cell_of_block m rfl⟩
  have KZ : ∀ W, Below V.heap.size V W → Hid (W.heap[w.heap.size + 1]? = some (.cells #[.slice none 0 0, .int .u16 0, .int .u16 0] 50)) := fun W hb => (hb.block _ (block_lt HV.out.2.2.1)).trans HV.out.2.2.1
  have p0 := block_lt HV.out.2.1
  have p1 := block_lt HV.out.2.2.1
  go_enter Try.func22, Try.ntmps22
  go_wp2_with fail
  rw [← hV]
  clear hV
  go_region_held3 (fun W => W.cell? ⟨w.heap.size, 0, none⟩ = some (.slice xa xn xc) ∧ W.cell? ⟨w.heap.size, 1, none⟩ = some (.int .u16 (t : Int)) ∧ W.cell? ⟨w.heap.size, 2, none⟩ = some (.int .u16 (cl : Int))) (first | exact KS _ HB6.out | exact KS _ (Below.refl V.heap.size V).drew | exact KS _ (Below.refl V.heap.size V) | exact ⟨(by rw [set_ne _ _ _ _ (by simp), set_ne _ _ _ _ (by simp), set_ne _ _ _ _ (by simp)]; exact (KS _ HB6.out).1), (by rw [set_ne _ _ _ _ (by simp), set_ne _ _ _ _ (by simp), set_ne _ _ _ _ (by simp)]; exact (KS _ HB6.out).2.1), (by rw [set_ne _ _ _ _ (by simp), set_ne _ _ _ _ (by simp), set_ne _ _ _ _ (by simp)]; exact (KS _ HB6.out).2.2)⟩) (first
    | (go_at_call 38; refine Calls.mono (KN _ ?hb).out ?_; (case hb => first | exact HV.out.1.drew | exact HV.out.1); rintro e w6 ⟨⟨b6, n6, c6⟩, rfl, H6⟩; have HB6 : Hid (Below V.heap.size V w6) := (by first | exact (Below.refl V.heap.size V).drew.trans H6.out.2 | exact H6.out.2); have z := KZ w6 HB6.out; have z0 : w6.cell? ⟨w.heap.size + 1, 0, none⟩ = some (.slice none 0 0) := (cell_of_block z.out rfl); have z1 : w6.cell? ⟨w.heap.size + 1, 1, none⟩ = some (.int .u16 0) := (cell_of_block z.out rfl); have z2 : w6.cell? ⟨w.heap.size + 1, 2, none⟩ = some (.int .u16 0) := (cell_of_block z.out rfl); have f0 : w6.frozen? ⟨w.heap.size + 1, 0, none⟩ = false := (frozen_of_block z.out); have f1 : w6.frozen? ⟨w.heap.size + 1, 1, none⟩ = false := (frozen_of_block z.out); have f2 : w6.frozen? ⟨w.heap.size + 1, 2, none⟩ = false := (frozen_of_block z.out); have p7 := block_lt z.out)
    | fail)
  have z8 : ((((w6.setCell ⟨w.heap.size + 1, 0, none⟩ (.slice b6 n6 c6)).setCell ⟨w.heap.size + 1, 1, none⟩ (.int .u16 (t : Int))).setCell ⟨w.heap.size + 1, 2, none⟩ (.int .u16 (cl : Int)))).heap[w.heap.size + 1]? = some (.cells #[.slice b6 n6 c6, .int .u16 (t : Int), .int .u16 (cl : Int)] 50) := by
    exact put3 z.out _ _ _
  have HO8 : Hid (∀ j, j ≠ w.heap.size + 1 → ((((w6.setCell ⟨w.heap.size + 1, 0, none⟩ (.slice b6 n6 c6)).setCell ⟨w.heap.size + 1, 1, none⟩ (.int .u16 (t : Int))).setCell ⟨w.heap.size + 1, 2, none⟩ (.int .u16 (cl : Int)))).heap[j]? = w6.heap[j]?) := fun j hj => put3_other w6 (w.heap.size + 1) _ _ _ j hj
  have HB8 : Hid (Below V.heap.size V w6 ∧ Below (w.heap.size + 1) w6 ((((w6.setCell ⟨w.heap.size + 1, 0, none⟩ (.slice b6 n6 c6)).setCell ⟨w.heap.size + 1, 1, none⟩ (.int .u16 (t : Int))).setCell ⟨w.heap.size + 1, 2, none⟩ (.int .u16 (cl : Int))))) := ⟨HB6.out, put3_below w6 (w.heap.size + 1) _ _ _⟩
  generalize ((((w6.setCell ⟨w.heap.size + 1, 0, none⟩ (.slice b6 n6 c6)).setCell ⟨w.heap.size + 1, 1, none⟩ (.int .u16 (t : Int))).setCell ⟨w.heap.size + 1, 2, none⟩ (.int .u16 (cl : Int)))) = w8 at *
  have y0 : w8.cell? ⟨w.heap.size + 1, 0, none⟩ = some (.slice b6 n6 c6) := cell_of_block z8 rfl
  have y1 : w8.cell? ⟨w.heap.size + 1, 1, none⟩ = some (.int .u16 (t : Int)) := cell_of_block z8 rfl
  have y2 : w8.cell? ⟨w.heap.size + 1, 2, none⟩ = some (.int .u16 (cl : Int)) := cell_of_block z8 rfl
  have y3 := block_lt z8
  clear z8 z0 z1 z2 f0 f1 f2 KS KZ
  go_wp2
  have hs := HV.out.2.2.2
  refine bodyPost_ret (v := .agg #[.slice b6 n6 c6, .int .u16 (t : Int), .int .u16 (cl : Int)]) ?_ rfl ⟨⟨b6, n6, c6⟩, rfl, ?_, ?_⟩
  · simp [results, Try.results22, go_sem, y0, y1, y2]
  · have h6 : Owx1 V.heap.size w6 ⟨b6, n6, c6⟩ nm := H6.out.1
    exact (h6.keep fun j h1 _ _ => HO8.out j (by omega)).mono (by omega)
  · exact (HV.out.1.trans (HB8.out.1.mono (by omega))).trans (HB8.out.2.mono (by omega))
end Go.Proofs.Ytmlccnpondemiaa
namespace Go.Proofs.Ytmlccnpondemiaa
open Go.ChangeShapes Go.WideShapes Go.ChangeAt Go.RowKit
set_option linter.unusedVariables false
set_option linter.unusedSimpArgs false
/-- Numbers copied onto an empty list. -/
theorem st_cu0 {w : World} {ops : Array Oper} {o : Oper} {a : Act} {K : Act → World → Prop} {Q : Exit → Act → World → Prop} {E : Prop} (hgd : o.guard = none) (s x : Operand)
    (ho : o.op = .call { callee := .builtin .append, args := #[s, x], argTypes := #[75, 75] }) (B g : Nat) (hs : a.eval s = .slice (some ⟨g, 0, none⟩) 0 0) (hblk : BlkV w g 73 []) (hBg : B ≤ g) (a2 : Option Addr) (n2 c2 : Nat) (us : List Nat) (hx : a.eval x = .slice a2 n2 c2) (hr : URd w ⟨a2, n2, c2⟩ us) (hn : us.length ≤ 35184372088832) (hB : B ≤ w.heap.size)
    (h : ∀ (t' : Sl) w', Hid (UOwn B w' t' us ∧ w.grownBy w' (some g)) → K (a.put o.dst (.slice t'.a t'.n t'.c)) w') :
    if Region.wanted o (yielded ops a.tmps) = true then Oper.wp Try.prog o a w K Q else E := by
  have hl : us.length = n2 := hr.len
  refine step_append_row tyU hgd s x 75 ho B _ 0 [] hs (.inr ⟨g, rfl, hBg, hblk, Nat.le_refl _, Nat.zero_le _⟩) _ n2 (uv us) hx (src_of Try.underlying75 hr.rd (by rw [uv_len]; exact hl) (by intro v hv; obtain ⟨y, _, rfl⟩ := List.mem_map.1 hv; rfl)) (by omega) (by simp only [maxLen]; omega) hB ?_
  intro v' w' xs' q1 q2 q3 q4
  obtain ⟨ao', rfl, _⟩ := q1.out.shape
  refine h ⟨ao', 0 + n2, xs'.length⟩ w' ⟨⟨xs', ?_, ?_, hr.bd, q4.out _ ⟨0, rfl, by omega, by omega⟩ (by simp) (by intro v hv; obtain ⟨y, hy, rfl⟩ := List.mem_map.1 hv; exact ⟨y, rfl, by omega, by have := hr.bd y hy; omega⟩)⟩, q3.out⟩
  · rw [hl]; simpa using q1.out
  · have := q2.out
    rw [hl]
    simpa using this
/-- What the world before the numbers is like: an empty list at g; perhaps a box. -/
structure PreU (W1 W : World) (g : Nat) : Prop where
  bel : Below W1.heap.size W1 W
  low : W1.heap.size ≤ g
  blk : BlkV W g 73 []
theorem preU1 (W1 : World) : PreU W1 (W1.drew.alloc (.cells #[] 73)) W1.heap.size := ⟨al_below (Below.refl _ _).drew (Nat.le_refl _), Nat.le_refl _, heap_alloc_new W1.drew _⟩
theorem preU2 (W1 : World) (o : Obj) : PreU W1 ((W1.drew.alloc o).alloc (.cells #[] 73)) (W1.heap.size + 1) := by
  refine ⟨al_below (al_below (Below.refl _ _).drew (Nat.le_refl _)) (Nat.le_refl _), Nat.le_succ _, ?_⟩
  have h := heap_alloc_new (W1.drew.alloc o) (.cells #[] 73)
  rw [show (W1.drew.alloc o).heap.size = W1.heap.size + 1 by simp] at h
  exact h
theorem preU3 (W1 : World) (o : Obj) : PreU W1 ((W1.drew.alloc (.cells #[] 73)).alloc o) W1.heap.size := by
  refine ⟨al_below (al_below (Below.refl _ _).drew (Nat.le_refl _)) (Nat.le_refl _), Nat.le_refl _, ?_⟩
  have h : BlkV (W1.drew.alloc (.cells #[] 73)) W1.heap.size 73 [] := heap_alloc_new W1.drew _
  exact h.below (new_below _ _)
theorem PreU.after {W1 W W' : World} {g : Nat} (h : PreU W1 W g) (hg : W.grownBy W' (some g)) : Below W1.heap.size W1 W' := h.bel.grown hg h.bel.size (fun j e => by injection e with e; have := h.low; omega)
theorem boxU2 (W1 Wu : World) (hg : ((W1.drew.alloc (.cells #[.slice none 0 0, .slice none 0 0, .slice none 0 0, .slice none 0 0] 77)).alloc (.cells #[] 73)).grownBy Wu (some (W1.heap.size + 1))) : DBlk Wu W1.heap.size nilDA := by
  have h : DBlk (W1.drew.alloc (.cells #[.slice none 0 0, .slice none 0 0, .slice none 0 0, .slice none 0 0] 77)) W1.heap.size nilDA := dblk_new W1.drew
  have h2 := h.same ((new_below _ (.cells #[] 73)).block _ h.lt)
  exact h2.same (hg.block _ h2.lt (by simp))
theorem boxU3 (W1 Wu : World) (hg : ((W1.drew.alloc (.cells #[] 73)).alloc (.cells #[.slice none 0 0, .slice none 0 0, .slice none 0 0, .slice none 0 0] 77)).grownBy Wu (some W1.heap.size)) : DBlk Wu (W1.heap.size + 1) nilDA := by
  have h : DBlk ((W1.drew.alloc (.cells #[] 73)).alloc (.cells #[.slice none 0 0, .slice none 0 0, .slice none 0 0, .slice none 0 0] 77)) (W1.drew.alloc (.cells #[] 73)).heap.size nilDA := dblk_new _
  rw [show (W1.drew.alloc (.cells #[] 73)).heap.size = W1.heap.size + 1 by simp] at h
  exact h.same (hg.block _ h.lt (by simp))
set_option maxRecDepth 100000 in
set_option maxHeartbeats 8000000 in
theorem kcopy_any (x : DA) (d : Dat) (w : World) (h : DRd w x d) (hS : Wb d) :
    Calls Try.prog 49 #[.agg #[.slice x.p1.a x.p1.n x.p1.c, .slice x.p2.a x.p2.n x.p2.c, .slice x.p3.a x.p3.n x.p3.c, .slice x.p4.a x.p4.n x.p4.c]] w fun e w' => ∃ y : DA, e = .returned (.agg #[.slice y.p1.a y.p1.n y.p1.c, .slice y.p2.a y.p2.n y.p2.c, .slice y.p3.a y.p3.n y.p3.c, .slice y.p4.a y.p4.n y.p4.c]) ∧ Hid (DOwx w.heap.size w' y d ∧ Below w.heap.size w w') := by
  have hbx := new_below w (.cells #[.slice x.p1.a x.p1.n x.p1.c, .slice x.p2.a x.p2.n x.p2.c, .slice x.p3.a x.p3.n x.p3.c, .slice x.p4.a x.p4.n x.p4.c] 77)
  have HS : Hid (DBlk (w.alloc (.cells #[.slice x.p1.a x.p1.n x.p1.c, .slice x.p2.a x.p2.n x.p2.c, .slice x.p3.a x.p3.n x.p3.c, .slice x.p4.a x.p4.n x.p4.c] 77)) w.heap.size x ∧ DRd (w.alloc (.cells #[.slice x.p1.a x.p1.n x.p1.c, .slice x.p2.a x.p2.n x.p2.c, .slice x.p3.a x.p3.n x.p3.c, .slice x.p4.a x.p4.n x.p4.c] 77)) x d ∧ Below w.heap.size w (w.alloc (.cells #[.slice x.p1.a x.p1.n x.p1.c, .slice x.p2.a x.p2.n x.p2.c, .slice x.p3.a x.p3.n x.p3.c, .slice x.p4.a x.p4.n x.p4.c] 77))) := ⟨heap_alloc_new _ _, h.below hbx, hbx⟩
  have HB : Hid (Wb d) := hS
  have HZ0 : Hid ((w.alloc (.cells #[.slice x.p1.a x.p1.n x.p1.c, .slice x.p2.a x.p2.n x.p2.c, .slice x.p3.a x.p3.n x.p3.c, .slice x.p4.a x.p4.n x.p4.c] 77)).heap.size = w.heap.size + 1) := by show _ = _; simp
  have hn3 : d.ts.length = x.p3.n := h.h3.len
  have hn4 : d.raw.length = x.p4.n := h.h4.len
  have KT : Hid (∀ W B, TRd W x.p3 d.ts → B ≤ W.heap.size → Calls Try.prog 48 #[.slice x.p3.a x.p3.n x.p3.c] W fun e w' => ∃ tt : Sl, e = .returned (.slice tt.a tt.n tt.c) ∧ Hid (Owx1 B w' tt d.ts ∧ Below W.heap.size W w')) := fun W B hW hB => by
    refine (copyT_any x.p3.a x.p3.c x.p3.n d.ts 9223372036854775807 W hW.rd hW.len hW.z63 (by have := hS.tn; have := hW.len; omega)).mono ?_
    rintro e w' ⟨v, ys, rfl, H⟩
    obtain ⟨q1, q2, q3⟩ := H.out
    obtain ⟨ao, rfl, _⟩ := q1.shape
    exact ⟨⟨ao, _, _⟩, rfl, ⟨ys, q1.mono hB, q2⟩, q3⟩
  have KY : Hid (∀ W B, BRd W x.p4 d.raw → B ≤ W.heap.size → Calls Try.prog 28 #[.slice x.p4.a x.p4.n x.p4.c] W fun e w' => ∃ tb : Sl, e = .returned (.slice tb.a tb.n tb.c) ∧ Hid (BOwn B w' tb d.raw ∧ Below W.heap.size W w')) := fun W B hW hB => by
    have hK := copy_any x.p4.a x.p4.c d.raw W hW.rd hW.nil (by have := hS.r; omega)
    rw [hW.len] at hK
    refine hK.mono ?_
    rintro e w' ⟨v, ys, rfl, q1, q2, q3⟩
    obtain ⟨ao, rfl, _⟩ := q1.addr
    refine ⟨⟨ao, x.p4.n, ys.length⟩, rfl, ⟨ys, ?_, ?_⟩, q3⟩
    · rw [hW.len]; exact q1.mono hB
    · rw [hW.len]; exact q2
  clear h hbx
  obtain ⟨⟨a1, n1, k1⟩, ⟨a2, n2, k2⟩, ⟨a3, n3, k3⟩, ⟨a4, n4, k4⟩⟩ := x
  simp only at HS HZ0 KT KY hn3 hn4 ⊢
  go_enter Try.func49, Try.ntmps49
  go_upto_region 1 with fail
  generalize (w.alloc (.cells #[.slice a1 n1 k1, .slice a2 n2 k2, .slice a3 n3 k3, .slice a4 n4 k4] 77)) = W0 at *
  obtain ⟨b, hb⟩ : ∃ b, b = w.heap.size := ⟨_, rfl⟩
  rw [← hb] at HS HZ0 ⊢
  have Hb : Hid (b = w.heap.size) := hb
  clear hb
  have hz0 := HS.out.1.lt
  have HS1 : Hid (DBlk (W0.alloc (.cells #[.slice none 0 0, .slice none 0 0, .slice none 0 0, .slice none 0 0] 77)) b ⟨⟨a1, n1, k1⟩, ⟨a2, n2, k2⟩, ⟨a3, n3, k3⟩, ⟨a4, n4, k4⟩⟩ ∧ DBlk (W0.alloc (.cells #[.slice none 0 0, .slice none 0 0, .slice none 0 0, .slice none 0 0] 77)) (b + 1) nilDA ∧ DRd (W0.alloc (.cells #[.slice none 0 0, .slice none 0 0, .slice none 0 0, .slice none 0 0] 77)) ⟨⟨a1, n1, k1⟩, ⟨a2, n2, k2⟩, ⟨a3, n3, k3⟩, ⟨a4, n4, k4⟩⟩ d ∧ Below b w (W0.alloc (.cells #[.slice none 0 0, .slice none 0 0, .slice none 0 0, .slice none 0 0] 77)) ∧ (W0.alloc (.cells #[.slice none 0 0, .slice none 0 0, .slice none 0 0, .slice none 0 0] 77)).heap.size = b + 2) := by
    have hn := new_below W0 (.cells #[.slice none 0 0, .slice none 0 0, .slice none 0 0, .slice none 0 0] 77)
    have hD := dblk_new W0
    rw [HZ0.out] at hD
    exact ⟨HS.out.1.same (hn.block _ HS.out.1.lt), hD, HS.out.2.1.below hn, HS.out.2.2.trans (hn.mono (by omega)), by simp [HZ0.out]⟩
  clear HS HZ0 hz0
  generalize (W0.alloc (.cells #[.slice none 0 0, .slice none 0 0, .slice none 0 0, .slice none 0 0] 77)) = W1 at *
  have HK0 : Hid (DBlk W1.drew b ⟨⟨a1, n1, k1⟩, ⟨a2, n2, k2⟩, ⟨a3, n3, k3⟩, ⟨a4, n4, k4⟩⟩) := HS1.out.1
  have HD0 : Hid (DRd W1.drew ⟨⟨a1, n1, k1⟩, ⟨a2, n2, k2⟩, ⟨a3, n3, k3⟩, ⟨a4, n4, k4⟩⟩ d) := HS1.out.2.2.1.below (Below.refl _ _).drew
  have HB0 : Hid (Below W1.heap.size W1 W1.drew) := (Below.refl _ _).drew
  have c1 : W1.cell? ⟨b, 1, none⟩ = some (.slice a2 n2 k2) := HS1.out.1.box.2.1
  have c2 : W1.cell? ⟨b, 2, none⟩ = some (.slice a3 n3 k3) := HS1.out.1.box.2.2.1
  have c3 : W1.cell? ⟨b, 3, none⟩ = some (.slice a4 n4 k4) := HS1.out.1.box.2.2.2.1
  have hbl := HS1.out.1.lt
  go_cut [3] from 5 to 15 (fun s3 wx => ∃ (D : Nat) (tu tt tb : Sl), s3 = .pointer (some ⟨D, 0, none⟩) ∧ Hid (CqS W1 wx D tu tt tb d))
  case first =>
    have hb1 : ¬ b = W1.heap.size := by omega
    have hb2 : ¬ b = W1.heap.size + 1 := by omega
    go_region_held3 (fun W => W.cell? ⟨b, 1, none⟩ = some (.slice a2 n2 k2) ∧ W.cell? ⟨b, 2, none⟩ = some (.slice a3 n3 k3) ∧ W.cell? ⟨b, 3, none⟩ = some (.slice a4 n4 k4)) (exact ⟨by go_keep, by go_keep, by go_keep⟩) (first
      | (refine st_cu0 rfl _ _ rfl W1.heap.size _ rfl (by first | exact (preU1 W1).blk | exact (preU2 W1 _).blk | exact (preU3 W1 _).blk) (by first | exact (preU1 W1).low | exact (preU2 W1 (.cells #[] 73)).low) a2 n2 k2 d.us rfl (HS1.out.2.2.1.h2.below (by first | exact (preU1 W1).bel | exact (preU2 W1 _).bel | exact (preU3 W1 _).bel)) HB.out.un (by first | exact (preU1 W1).bel.size | exact (preU2 W1 _).bel.size | exact (preU3 W1 _).bel.size) ?_; intro tu Wu Hu; have HBu : Hid (Below W1.heap.size W1 Wu) := (by first | exact (preU1 W1).after Hu.out.2 | exact (preU2 W1 _).after Hu.out.2 | exact (preU3 W1 _).after Hu.out.2); have HKu : Hid (DBlk Wu b ⟨⟨a1, n1, k1⟩, ⟨a2, n2, k2⟩, ⟨a3, n3, k3⟩, ⟨a4, n4, k4⟩⟩) := HS1.out.1.same (HBu.out.block _ HS1.out.1.lt); have HDu : Hid (DRd Wu ⟨⟨a1, n1, k1⟩, ⟨a2, n2, k2⟩, ⟨a3, n3, k3⟩, ⟨a4, n4, k4⟩⟩ d) := HS1.out.2.2.1.below HBu.out; have e1 : Wu.cell? ⟨b, 1, none⟩ = some (.slice a2 n2 k2) := (HKu.out).box.2.1; have e2 : Wu.cell? ⟨b, 2, none⟩ = some (.slice a3 n3 k3) := (HKu.out).box.2.2.1; have e3 : Wu.cell? ⟨b, 3, none⟩ = some (.slice a4 n4 k4) := (HKu.out).box.2.2.2.1; have el : b < Wu.heap.size := (HKu.out).lt; (try (have hDu : Hid (DBlk Wu W1.heap.size nilDA) := boxU2 W1 Wu Hu.out.2)); (try (have hDu : Hid (DBlk Wu (W1.heap.size + 1) nilDA) := boxU3 W1 Wu Hu.out.2)); (try (have x0 := hDu.out.fz 0; have x1 := hDu.out.fz 1; have x2 := hDu.out.fz 2; have x3 := hDu.out.fz 3; have y0 := hDu.out.box.1; have y1 := hDu.out.box.2.1; have y2 := hDu.out.box.2.2.1; have y3 := hDu.out.box.2.2.2.1; (try simp only at y0 y1 y2 y3))))
      | (go_at_call 48; refine (KT.out _ W1.heap.size (by first | exact HDu.out.h3 | exact HDu.out.h3.below (new_below _ _)) (by first | exact HBu.out.size | exact (al_below HBu.out (Nat.le_refl _)).size)).mono ?_; rintro e Wt ⟨tt, rfl, Ht⟩; have HBt : Hid (Below W1.heap.size W1 Wt) := (by first | exact HBu.out.trans (Ht.out.2.mono HBu.out.size) | exact (al_below HBu.out (Nat.le_refl _)).trans (Ht.out.2.mono (al_below HBu.out (Nat.le_refl _)).size)); have HKt : Hid (DBlk Wt b ⟨⟨a1, n1, k1⟩, ⟨a2, n2, k2⟩, ⟨a3, n3, k3⟩, ⟨a4, n4, k4⟩⟩) := (by first | exact HKu.out.same (Ht.out.2.block _ HKu.out.lt) | exact (HKu.out.same ((new_below _ _).block _ HKu.out.lt)).same (Ht.out.2.block _ (Nat.lt_of_lt_of_le HKu.out.lt (new_below _ _).size))); have HDt : Hid (DRd Wt ⟨⟨a1, n1, k1⟩, ⟨a2, n2, k2⟩, ⟨a3, n3, k3⟩, ⟨a4, n4, k4⟩⟩ d) := (by first | exact HDu.out.below Ht.out.2 | exact (HDu.out.below (new_below _ _)).below Ht.out.2); have HUt : Hid (UOwn W1.heap.size Wt tu d.us) := (by first | exact (Hu.out.1).stays Ht.out.2 | exact ((Hu.out.1).stays (new_below _ _)).stays Ht.out.2); have f1 : Wt.cell? ⟨b, 1, none⟩ = some (.slice a2 n2 k2) := (HKt.out).box.2.1; have f2 : Wt.cell? ⟨b, 2, none⟩ = some (.slice a3 n3 k3) := (HKt.out).box.2.2.1; have f3 : Wt.cell? ⟨b, 3, none⟩ = some (.slice a4 n4 k4) := (HKt.out).box.2.2.2.1; have fl : b < Wt.heap.size := (HKt.out).lt; (try (have hDt : Hid (DBlk Wt Wu.heap.size nilDA) := (dblk_new Wu).same (Ht.out.2.block _ (dblk_new Wu).lt))); (try (have hDt := Lib.hid (hDu.out.same (Ht.out.2.block _ hDu.out.lt)))); (try (have x0 := hDt.out.fz 0; have x1 := hDt.out.fz 1; have x2 := hDt.out.fz 2; have x3 := hDt.out.fz 3; have y0 := hDt.out.box.1; have y1 := hDt.out.box.2.1; have y2 := hDt.out.box.2.2.1; have y3 := hDt.out.box.2.2.2.1; (try simp only at y0 y1 y2 y3))))
      | (go_at_call 28; refine (KY.out _ W1.heap.size (by first | exact HDt.out.h4 | exact HDt.out.h4.below (new_below _ _)) (by first | exact HBt.out.size | exact (al_below HBt.out (Nat.le_refl _)).size)).mono ?_; rintro e Wv ⟨tb, rfl, Hv⟩; have HBv : Hid (Below W1.heap.size W1 Wv) := (by first | exact HBt.out.trans (Hv.out.2.mono HBt.out.size) | exact (al_below HBt.out (Nat.le_refl _)).trans (Hv.out.2.mono (al_below HBt.out (Nat.le_refl _)).size)); have HKv : Hid (DBlk Wv b ⟨⟨a1, n1, k1⟩, ⟨a2, n2, k2⟩, ⟨a3, n3, k3⟩, ⟨a4, n4, k4⟩⟩) := (by first | exact HKt.out.same (Hv.out.2.block _ HKt.out.lt) | exact (HKt.out.same ((new_below _ _).block _ HKt.out.lt)).same (Hv.out.2.block _ (Nat.lt_of_lt_of_le HKt.out.lt (new_below _ _).size))); have HUv : Hid (UOwn W1.heap.size Wv tu d.us) := (by first | exact (HUt.out).stays Hv.out.2 | exact ((HUt.out).stays (new_below _ _)).stays Hv.out.2); have HTv : Hid (Owx1 W1.heap.size Wv tt d.ts) := (by first | exact (Ht.out.1).stays Hv.out.2 | exact ((Ht.out.1).stays (new_below _ _)).stays Hv.out.2); have g1 : Wv.cell? ⟨b, 1, none⟩ = some (.slice a2 n2 k2) := (HKv.out).box.2.1; have g2 : Wv.cell? ⟨b, 2, none⟩ = some (.slice a3 n3 k3) := (HKv.out).box.2.2.1; have g3 : Wv.cell? ⟨b, 3, none⟩ = some (.slice a4 n4 k4) := (HKv.out).box.2.2.2.1; have gl : b < Wv.heap.size := (HKv.out).lt; (try (have hDv : Hid (DBlk Wv Wt.heap.size nilDA) := (dblk_new Wt).same (Hv.out.2.block _ (dblk_new Wt).lt))); (try (have hDv := Lib.hid (hDt.out.same (Hv.out.2.block _ hDt.out.lt)))); (try (have x0 := hDv.out.fz 0; have x1 := hDv.out.fz 1; have x2 := hDv.out.fz 2; have x3 := hDv.out.fz 3; have y0 := hDv.out.box.1; have y1 := hDv.out.box.2.1; have y2 := hDv.out.box.2.2.1; have y3 := hDv.out.box.2.2.2.1; (try simp only at y0 y1 y2 y3))); have hbD : ¬ b = Wt.heap.size := (by omega); have hbD' : ¬ Wt.heap.size = b := (by omega); have hbD2 : ¬ b = Wu.heap.size := (by omega); have hbD2' : ¬ Wu.heap.size = b := (by omega); have hbD3 : ¬ b = W1.heap.size := (by omega); have hbD3' : ¬ W1.heap.size = b := (by omega); have hbD4 : ¬ b = W1.heap.size + 1 := (by omega); have hbD4' : ¬ W1.heap.size + 1 = b := (by omega)))
    all_goals
      go_wp2_with fail
      go_meet
      first
        | exact ⟨_, tu, tt, tb, rfl, cqs_new HUv.out HTv.out Hv.out.1 HBv.out⟩
        | exact ⟨_, tu, tt, tb, rfl, cqs_set HUv.out HTv.out Hv.out.1 HBv.out hDv.out (by first | exact HBt.out.size | exact HBu.out.size | exact Nat.le_refl _ | exact Nat.le_succ _)⟩
  case rest =>
    obtain ⟨D, tu, tt, tb, rfl, HC⟩ := hcut
    clear HB0 HD0 HK0 c1 c2 c3 hbl
    have HCN : Hid (∃ tn : Sl, CqN W1 wc D ⟨tn, tu, tt, tb⟩ ⟨d.ns.take 0, d.us, d.ts, d.raw⟩) := ⟨_, HC.out.start⟩
    have c0 : wc.cell? ⟨b, 0, none⟩ = some (.slice a1 n1 k1) := (HS1.out.1.same (HC.out.bel.block b HS1.out.1.lt)).box.1
    have hn1 : d.ns.length = n1 := HS1.out.2.2.1.h1.len
    have HLN : Hid (d.ns.length = n1) := hn1
    have hn1b : n1 ≤ 5864062014700 := by rw [← hn1]; exact HB.out.nn
    clear HC hn1 HB KT KY hn3 hn4
    go_wp2_with fail
    clear c0
    go_loopw [4] (fun v wr => ∃ k : Nat, k ≤ n1 ∧ v = .int .i64 (k : Int) ∧ Hid (∃ tn : Sl, CqN W1 wr D ⟨tn, tu, tt, tb⟩ ⟨d.ns.take k, d.us, d.ts, d.raw⟩)) (fun v _ => n1 - (intOf v).toNat)
    case atStart => exact ⟨0, Nat.zero_le _, rfl, HCN⟩
    case round =>
      clear HCN
      obtain ⟨k, hk, rfl, HG⟩ := hrel
      obtain ⟨tn, HGn⟩ : ∃ tn : Sl, Hid (CqN W1 wr D ⟨tn, tu, tt, tb⟩ ⟨d.ns.take k, d.us, d.ts, d.raw⟩) := HG.out
      clear HG
      have HG : Hid (CqN W1 wr D ⟨tn, tu, tt, tb⟩ ⟨d.ns.take k, d.us, d.ts, d.raw⟩) := HGn.out
      clear HGn
      by_cases hlt : k < n1
      · have hlt' : (k : Int) < (n1 : Int) := by omega
        have hki : k < d.ns.length := by rw [HLN.out]; exact hlt
        obtain ⟨b1, o1, ha, hbl1, y, hy, hyr⟩ := (HS1.out.2.2.1.h1.below HG.out.bel).at k hki
        simp only at ha
        subst ha
        have KCP : Hid (Calls Try.prog 38 #[.slice y.a y.n y.c] wr.drew (CopyPost d.ns[k] 9223372036854775807 wr.drew)) := copyN_any y.a y.c y.n d.ns[k] 9223372036854775807 wr.drew (hyr.rd.below (Below.refl _ _).drew) hyr.len hyr.z63 (by have := hS.nl _ (List.getElem_mem hki); have := hyr.len; omega)
        have hb1s : W1.heap.size ≤ wr.heap.size := HG.out.bel.size
        have KC2 : Hid (Calls Try.prog 38 #[.slice y.a y.n y.c] wr.drew fun e w' => ∃ s5 : Sl, e = .returned (.slice s5.a s5.n s5.c) ∧ Hid (Owx1 W1.heap.size w' s5 d.ns[k] ∧ Below wr.drew.heap.size wr.drew w')) := by
          refine Calls.mono KCP.out ?_
          rintro e w' ⟨v, ys, rfl, H⟩
          obtain ⟨q1, q2, q3⟩ := H.out
          obtain ⟨ao, rfl, _⟩ := q1.shape
          exact ⟨⟨ao, _, _⟩, rfl, ⟨ys, q1.mono hb1s, q2⟩, q3⟩
        clear KCP
        have HTK : Hid (d.ns.take (k + 1) = d.ns.take k ++ [d.ns[k]]) := List.take_succ_eq_append_getElem hki
        have HKL : Hid ((d.ns.take k).length ≤ 5864062014700) := by show _ ≤ _; rw [List.length_take]; omega
        clear hyr
        generalize d.ns[k] = nm at *
        generalize d.ns.take k = nk at *
        have c0 : wr.cell? ⟨D, 0, none⟩ = some (.slice tn.a tn.n tn.c) := HG.out.blk.box.1
        have cb0 : wr.cell? ⟨b, 0, none⟩ = some (.slice (some ⟨b1, o1, none⟩) n1 k1) := (HS1.out.1.same (HG.out.bel.block b HS1.out.1.lt)).box.1
        have z0 := HG.out.blk.fz 0
        have hDl := HG.out.blk.lt
        go_wp2_with fail
        go_region_law (first
          | (refine sq_n1 rfl _ _ rfl W1.heap.size tn nk rfl (HG5.out.go (new_below _ _)).own.1 ⟨W5.heap.size, 0, none⟩ rfl s5 nm (one_n W5 s5) (H5.out.1.stays (new_below _ _)) HKL.out (HG5.out.go (new_below _ _)).bel.size ?_; intro t7 W7 H7 HX7; have HD7 : Hid (DBlk W7 D ⟨tn, tu, tt, tb⟩) := (HG5.out.go (new_below _ _)).blk.offTy HX7.out; have f0 : W7.cell? ⟨D, 0, none⟩ = some (.slice tn.a tn.n tn.c) := HD7.out.box.1; have fz0 := HD7.out.fz 0; have fDl := HD7.out.lt)
          | (go_simp; go_at_call 38; refine KC2.out.mono ?_; rintro e W5 ⟨s5, rfl, H5⟩; have HG5 : Hid (CqN W1 W5 D ⟨tn, tu, tt, tb⟩ ⟨nk, d.us, d.ts, d.raw⟩) := (HG.out.go (Below.refl _ _).drew).go H5.out.2; have e0 : W5.cell? ⟨D, 0, none⟩ = some (.slice tn.a tn.n tn.c) := HG5.out.blk.box.1; have ez := HG5.out.blk.fz 0; have eDl := HG5.out.blk.lt))
        all_goals
          have HG8 : Hid (CqN W1 (W7.setCell ⟨D, 0, none⟩ (.slice t7.a t7.n t7.c)) D ⟨t7, tu, tt, tb⟩ ⟨nk ++ [nm], d.us, d.ts, d.raw⟩) := (HG5.out.go (new_below _ _)).step H7.out HX7.out
          rw [← HTK.out] at HG8
          go_wp2_with fail
          exact ⟨⟨k + 1, by omega, by go_num, ⟨t7, HG8.out⟩⟩, by simp [intOf]; omega⟩
      · have hge : ¬ (k : Int) < (n1 : Int) := by omega
        have hkn : k = n1 := by omega
        have HGE : Hid (CqN W1 wr D ⟨tn, tu, tt, tb⟩ d) := by
          have := HG.out
          rw [List.take_of_length_le (by rw [HLN.out]; omega)] at this
          exact this
        clear HG
        have cb0 : wr.cell? ⟨b, 0, none⟩ = some (.slice a1 n1 k1) := (HS1.out.1.same (HGE.out.bel.block b HS1.out.1.lt)).box.1
        have d0 : wr.cell? ⟨D, 0, none⟩ = some (.slice tn.a tn.n tn.c) := HGE.out.blk.box.1
        have d1 : wr.cell? ⟨D, 1, none⟩ = some (.slice tu.a tu.n tu.c) := HGE.out.blk.box.2.1
        have d2 : wr.cell? ⟨D, 2, none⟩ = some (.slice tt.a tt.n tt.c) := HGE.out.blk.box.2.2.1
        have d3 : wr.cell? ⟨D, 3, none⟩ = some (.slice tb.a tb.n tb.c) := HGE.out.blk.box.2.2.2.1
        have HRB : Hid (DBlk wr (b + 1) nilDA) := HS1.out.2.1.same (HGE.out.bel.block _ HS1.out.2.1.lt)
        have r0 : wr.cell? ⟨b + 1, 0, none⟩ = some (.slice none 0 0) := HRB.out.box.1
        have r1 : wr.cell? ⟨b + 1, 1, none⟩ = some (.slice none 0 0) := HRB.out.box.2.1
        have r2 : wr.cell? ⟨b + 1, 2, none⟩ = some (.slice none 0 0) := HRB.out.box.2.2.1
        have r3 : wr.cell? ⟨b + 1, 3, none⟩ = some (.slice none 0 0) := HRB.out.box.2.2.2.1
        have z0 := HRB.out.fz 0
        have z1 := HRB.out.fz 1
        have z2 := HRB.out.fz 2
        have z3 := HRB.out.fz 3
        have hbl := HRB.out.lt
        have hDl := HGE.out.blk.lt
        go_wp2_with fail
        have hW2 : W1.heap.size = b + 2 := HS1.out.2.2.2.2
        have HBW : Below w.heap.size w wr := by
          have h1 := HS1.out.2.2.2.1
          have h2 := Hb.out
          rw [h2] at h1
          exact h1.trans (HGE.out.bel.mono h1.size)
        have HX := ret4 HRB.out HBW (by have := Hb.out; omega) ⟨tn, tu, tt, tb⟩
        have HY : DOwx w.heap.size (set4 wr (b + 1) ⟨tn, tu, tt, tb⟩) ⟨tn, tu, tt, tb⟩ d := HGE.out.own.ret4 (by omega) (by have := Hb.out; omega)
        have k0 := HX.1.box.1
        have k1' := HX.1.box.2.1
        have k2' := HX.1.box.2.2.1
        have k3' := HX.1.box.2.2.2.1
        simp only [set4] at k0 k1' k2' k3'
        refine bodyPost_ret (v := .agg #[.slice tn.a tn.n tn.c, .slice tu.a tu.n tu.c, .slice tt.a tt.n tt.c, .slice tb.a tb.n tb.c]) ?_ rfl ⟨⟨tn, tu, tt, tb⟩, rfl, HY, HX.2⟩
        simp [results, Try.results49, go_sem, k0, k1', k2', k3']
end Go.Proofs.Ytmlccnpondemiaa
namespace Go.Proofs.Ytmlccnpondemiaa
open Go.ChangeShapes Go.WideShapes Go.ChangeAt Go.RowKit
set_option linter.unusedVariables false
set_option linter.unusedSimpArgs false
theorem put8 {w : World} {g : Nat} {v0 v1 v2 v3 v4 v5 v6 v7 : Value} {t : TypeId} (h : w.heap[g]? = some (.cells #[v0, v1, v2, v3, v4, v5, v6, v7] t)) (x0 x1 x2 x3 x4 x5 x6 x7 : Value) : ((((((((w.setCell ⟨g, 0, none⟩ x0).setCell ⟨g, 1, none⟩ x1).setCell ⟨g, 2, none⟩ x2).setCell ⟨g, 3, none⟩ x3).setCell ⟨g, 4, none⟩ x4).setCell ⟨g, 5, none⟩ x5).setCell ⟨g, 6, none⟩ x6).setCell ⟨g, 7, none⟩ x7).heap[g]? = some (.cells #[x0, x1, x2, x3, x4, x5, x6, x7] t) :=
  by
  have h0 : (w.setCell ⟨g, 0, none⟩ x0).heap[g]? = some (.cells #[x0, v1, v2, v3, v4, v5, v6, v7] t) := heap_set h 0 x0
  have h1 : ((w.setCell ⟨g, 0, none⟩ x0).setCell ⟨g, 1, none⟩ x1).heap[g]? = some (.cells #[x0, x1, v2, v3, v4, v5, v6, v7] t) := heap_set h0 1 x1
  have h2 : (((w.setCell ⟨g, 0, none⟩ x0).setCell ⟨g, 1, none⟩ x1).setCell ⟨g, 2, none⟩ x2).heap[g]? = some (.cells #[x0, x1, x2, v3, v4, v5, v6, v7] t) := heap_set h1 2 x2
  have h3 : ((((w.setCell ⟨g, 0, none⟩ x0).setCell ⟨g, 1, none⟩ x1).setCell ⟨g, 2, none⟩ x2).setCell ⟨g, 3, none⟩ x3).heap[g]? = some (.cells #[x0, x1, x2, x3, v4, v5, v6, v7] t) := heap_set h2 3 x3
  have h4 : (((((w.setCell ⟨g, 0, none⟩ x0).setCell ⟨g, 1, none⟩ x1).setCell ⟨g, 2, none⟩ x2).setCell ⟨g, 3, none⟩ x3).setCell ⟨g, 4, none⟩ x4).heap[g]? = some (.cells #[x0, x1, x2, x3, x4, v5, v6, v7] t) := heap_set h3 4 x4
  have h5 : ((((((w.setCell ⟨g, 0, none⟩ x0).setCell ⟨g, 1, none⟩ x1).setCell ⟨g, 2, none⟩ x2).setCell ⟨g, 3, none⟩ x3).setCell ⟨g, 4, none⟩ x4).setCell ⟨g, 5, none⟩ x5).heap[g]? = some (.cells #[x0, x1, x2, x3, x4, x5, v6, v7] t) := heap_set h4 5 x5
  have h6 : (((((((w.setCell ⟨g, 0, none⟩ x0).setCell ⟨g, 1, none⟩ x1).setCell ⟨g, 2, none⟩ x2).setCell ⟨g, 3, none⟩ x3).setCell ⟨g, 4, none⟩ x4).setCell ⟨g, 5, none⟩ x5).setCell ⟨g, 6, none⟩ x6).heap[g]? = some (.cells #[x0, x1, x2, x3, x4, x5, x6, v7] t) := heap_set h5 6 x6
  have h7 : ((((((((w.setCell ⟨g, 0, none⟩ x0).setCell ⟨g, 1, none⟩ x1).setCell ⟨g, 2, none⟩ x2).setCell ⟨g, 3, none⟩ x3).setCell ⟨g, 4, none⟩ x4).setCell ⟨g, 5, none⟩ x5).setCell ⟨g, 6, none⟩ x6).setCell ⟨g, 7, none⟩ x7).heap[g]? = some (.cells #[x0, x1, x2, x3, x4, x5, x6, x7] t) := heap_set h6 7 x7
  exact h7
theorem put8_below (w : World) (g : Nat) (x0 x1 x2 x3 x4 x5 x6 x7 : Value) : Below g w ((((((((w.setCell ⟨g, 0, none⟩ x0).setCell ⟨g, 1, none⟩ x1).setCell ⟨g, 2, none⟩ x2).setCell ⟨g, 3, none⟩ x3).setCell ⟨g, 4, none⟩ x4).setCell ⟨g, 5, none⟩ x5).setCell ⟨g, 6, none⟩ x6).setCell ⟨g, 7, none⟩ x7) :=
  ((((((((Below.refl g w).setCell (p := ⟨g, 0, none⟩) (Nat.le_refl g) x0).setCell (p := ⟨g, 1, none⟩) (Nat.le_refl g) x1).setCell (p := ⟨g, 2, none⟩) (Nat.le_refl g) x2).setCell (p := ⟨g, 3, none⟩) (Nat.le_refl g) x3).setCell (p := ⟨g, 4, none⟩) (Nat.le_refl g) x4).setCell (p := ⟨g, 5, none⟩) (Nat.le_refl g) x5).setCell (p := ⟨g, 6, none⟩) (Nat.le_refl g) x6).setCell (p := ⟨g, 7, none⟩) (Nat.le_refl g) x7
theorem put8_other (w : World) (g : Nat) (x0 x1 x2 x3 x4 x5 x6 x7 : Value) (j : Nat) (h : j ≠ g) : ((((((((w.setCell ⟨g, 0, none⟩ x0).setCell ⟨g, 1, none⟩ x1).setCell ⟨g, 2, none⟩ x2).setCell ⟨g, 3, none⟩ x3).setCell ⟨g, 4, none⟩ x4).setCell ⟨g, 5, none⟩ x5).setCell ⟨g, 6, none⟩ x6).setCell ⟨g, 7, none⟩ x7).heap[j]? = w.heap[j]? := by
  rw [Below.heap_setCell _ _ _ _ h, Below.heap_setCell _ _ _ _ h, Below.heap_setCell _ _ _ _ h, Below.heap_setCell _ _ _ _ h, Below.heap_setCell _ _ _ _ h, Below.heap_setCell _ _ _ _ h, Below.heap_setCell _ _ _ _ h, Below.heap_setCell _ _ _ _ h]
set_option maxHeartbeats 4000000 in
theorem copyr39 (x : RA) (r : Rec) (w : World) (h : RRd w x r) (hn : r.ow.length ≤ 8796093022000) (hW : Wb r.d) :
    Calls Try.prog 39 #[.agg (recCells x r).toArray] w fun e w' => ∃ y : RA, e = .returned (.agg (recCells y r).toArray) ∧ Hid (ROwx w.heap.size w' y r ∧ Below w.heap.size w w') := by
  have KN : ∀ W, Below w.heap.size w W → Hid (Calls Try.prog 38 #[.slice x.o.a x.o.n x.o.c] W fun e w' => ∃ s5 : Sl, e = .returned (.slice s5.a s5.n s5.c) ∧ Hid (Owx1 W.heap.size w' s5 r.ow ∧ Below W.heap.size W w')) := fun W hb => copyn38 x.o r.ow W (h.1.below hb) hn
  have KD : ∀ W, Below w.heap.size w W → Hid (Calls Try.prog 49 #[.agg #[.slice x.d.p1.a x.d.p1.n x.d.p1.c, .slice x.d.p2.a x.d.p2.n x.d.p2.c, .slice x.d.p3.a x.d.p3.n x.d.p3.c, .slice x.d.p4.a x.d.p4.n x.d.p4.c]] W fun e w' => ∃ y : DA, e = .returned (.agg #[.slice y.p1.a y.p1.n y.p1.c, .slice y.p2.a y.p2.n y.p2.c, .slice y.p3.a y.p3.n y.p3.c, .slice y.p4.a y.p4.n y.p4.c]) ∧ Hid (DOwx W.heap.size w' y r.d ∧ Below W.heap.size W w')) := fun W hb => kcopy_any x.d r.d W (h.2.below hb) hW
  clear h hn hW
  obtain ⟨⟨xa, xn, xc⟩, ⟨⟨xa1, xn1, xc1⟩, ⟨xa2, xn2, xc2⟩, ⟨xa3, xn3, xc3⟩, ⟨xa4, xn4, xc4⟩⟩⟩ := x
  obtain ⟨ow, t, cl, tt, d⟩ := r
  simp only at KN KD
  show Calls Try.prog 39 #[.agg #[.slice xa xn xc, .int .u16 (t : Int), .int .u16 (cl : Int), .int .u32 (tt : Int), .slice xa1 xn1 xc1, .slice xa2 xn2 xc2, .slice xa3 xn3 xc3, .slice xa4 xn4 xc4]] w _
  obtain ⟨V, hV⟩ : ∃ V, V = (w.alloc (.cells #[.slice xa xn xc, .int .u16 (t : Int), .int .u16 (cl : Int), .int .u32 (tt : Int), .slice xa1 xn1 xc1, .slice xa2 xn2 xc2, .slice xa3 xn3 xc3, .slice xa4 xn4 xc4] 79)).alloc (.cells #[.slice none 0 0, .int .u16 0, .int .u16 0, .int .u32 0, .slice none 0 0, .slice none 0 0, .slice none 0 0, .slice none 0 0] 79) := ⟨_, rfl⟩
  have HV : Hid (Below w.heap.size w V ∧ V.heap[w.heap.size]? = some (.cells #[.slice xa xn xc, .int .u16 (t : Int), .int .u16 (cl : Int), .int .u32 (tt : Int), .slice xa1 xn1 xc1, .slice xa2 xn2 xc2, .slice xa3 xn3 xc3, .slice xa4 xn4 xc4] 79) ∧ V.heap[w.heap.size + 1]? = some (.cells #[.slice none 0 0, .int .u16 0, .int .u16 0, .int .u32 0, .slice none 0 0, .slice none 0 0, .slice none 0 0, .slice none 0 0] 79) ∧ V.heap.size = w.heap.size + 1 + 1) := by
    rw [hV]
    refine ⟨((Below.refl _ _).alloc (Nat.le_refl _) _).alloc (by simp) _, block_alloc (alloc_at _ _) _, ?_, by simp⟩
    have := alloc_at (w.alloc (.cells #[.slice xa xn xc, .int .u16 (t : Int), .int .u16 (cl : Int), .int .u32 (tt : Int), .slice xa1 xn1 xc1, .slice xa2 xn2 xc2, .slice xa3 xn3 xc3, .slice xa4 xn4 xc4] 79)) (.cells #[.slice none 0 0, .int .u16 0, .int .u16 0, .int .u32 0, .slice none 0 0, .slice none 0 0, .slice none 0 0, .slice none 0 0] 79)
    simp only [World.size_alloc] at this
    exact this
  have KS : ∀ W, Below V.heap.size V W → W.cell? ⟨w.heap.size, 0, none⟩ = some (.slice xa xn xc) ∧ W.cell? ⟨w.heap.size, 1, none⟩ = some (.int .u16 (t : Int)) ∧ W.cell? ⟨w.heap.size, 2, none⟩ = some (.int .u16 (cl : Int)) ∧ W.cell? ⟨w.heap.size, 3, none⟩ = some (.int .u32 (tt : Int)) ∧ W.cell? ⟨w.heap.size, 4, none⟩ = some (.slice xa1 xn1 xc1) ∧ W.cell? ⟨w.heap.size, 5, none⟩ = some (.slice xa2 xn2 xc2) ∧ W.cell? ⟨w.heap.size, 6, none⟩ = some (.slice xa3 xn3 xc3) ∧ W.cell? ⟨w.heap.size, 7, none⟩ = some (.slice xa4 xn4 xc4) := fun W hb => by
    have m := (hb.block _ (block_lt HV.out.2.1)).trans HV.out.2.1
    exact ⟨cell_of_block m rfl, cell_of_block m rfl, cell_of_block m rfl, cell_of_block m rfl, cell_of_block m rfl, cell_of_block m rfl, cell_of_block m rfl, cell_of_block m rfl⟩
  have KZ : ∀ W, Below V.heap.size V W → Hid (W.heap[w.heap.size + 1]? = some (.cells #[.slice none 0 0, .int .u16 0, .int .u16 0, .int .u32 0, .slice none 0 0, .slice none 0 0, .slice none 0 0, .slice none 0 0] 79)) := fun W hb => (hb.block _ (block_lt HV.out.2.2.1)).trans HV.out.2.2.1
  have p0 := block_lt HV.out.2.1
  have p1 := block_lt HV.out.2.2.1
  go_enter Try.func39, Try.ntmps39
  go_wp2_with fail
  rw [← hV]
  clear hV
  go_region_held3 (fun W => W.cell? ⟨w.heap.size, 0, none⟩ = some (.slice xa xn xc) ∧ W.cell? ⟨w.heap.size, 1, none⟩ = some (.int .u16 (t : Int)) ∧ W.cell? ⟨w.heap.size, 2, none⟩ = some (.int .u16 (cl : Int)) ∧ W.cell? ⟨w.heap.size, 3, none⟩ = some (.int .u32 (tt : Int)) ∧ W.cell? ⟨w.heap.size, 4, none⟩ = some (.slice xa1 xn1 xc1) ∧ W.cell? ⟨w.heap.size, 5, none⟩ = some (.slice xa2 xn2 xc2) ∧ W.cell? ⟨w.heap.size, 6, none⟩ = some (.slice xa3 xn3 xc3) ∧ W.cell? ⟨w.heap.size, 7, none⟩ = some (.slice xa4 xn4 xc4)) (first | exact ⟨(by rw [set_ne _ _ _ _ (by simp), set_ne _ _ _ _ (by simp), set_ne _ _ _ _ (by simp), set_ne _ _ _ _ (by simp), set_ne _ _ _ _ (by simp), set_ne _ _ _ _ (by simp), set_ne _ _ _ _ (by simp), set_ne _ _ _ _ (by simp)]; exact (KS _ HB7.out).1), (by rw [set_ne _ _ _ _ (by simp), set_ne _ _ _ _ (by simp), set_ne _ _ _ _ (by simp), set_ne _ _ _ _ (by simp), set_ne _ _ _ _ (by simp), set_ne _ _ _ _ (by simp), set_ne _ _ _ _ (by simp), set_ne _ _ _ _ (by simp)]; exact (KS _ HB7.out).2.1), (by rw [set_ne _ _ _ _ (by simp), set_ne _ _ _ _ (by simp), set_ne _ _ _ _ (by simp), set_ne _ _ _ _ (by simp), set_ne _ _ _ _ (by simp), set_ne _ _ _ _ (by simp), set_ne _ _ _ _ (by simp), set_ne _ _ _ _ (by simp)]; exact (KS _ HB7.out).2.2.1), (by rw [set_ne _ _ _ _ (by simp), set_ne _ _ _ _ (by simp), set_ne _ _ _ _ (by simp), set_ne _ _ _ _ (by simp), set_ne _ _ _ _ (by simp), set_ne _ _ _ _ (by simp), set_ne _ _ _ _ (by simp), set_ne _ _ _ _ (by simp)]; exact (KS _ HB7.out).2.2.2.1), (by rw [set_ne _ _ _ _ (by simp), set_ne _ _ _ _ (by simp), set_ne _ _ _ _ (by simp), set_ne _ _ _ _ (by simp), set_ne _ _ _ _ (by simp), set_ne _ _ _ _ (by simp), set_ne _ _ _ _ (by simp), set_ne _ _ _ _ (by simp)]; exact (KS _ HB7.out).2.2.2.2.1), (by rw [set_ne _ _ _ _ (by simp), set_ne _ _ _ _ (by simp), set_ne _ _ _ _ (by simp), set_ne _ _ _ _ (by simp), set_ne _ _ _ _ (by simp), set_ne _ _ _ _ (by simp), set_ne _ _ _ _ (by simp), set_ne _ _ _ _ (by simp)]; exact (KS _ HB7.out).2.2.2.2.2.1), (by rw [set_ne _ _ _ _ (by simp), set_ne _ _ _ _ (by simp), set_ne _ _ _ _ (by simp), set_ne _ _ _ _ (by simp), set_ne _ _ _ _ (by simp), set_ne _ _ _ _ (by simp), set_ne _ _ _ _ (by simp), set_ne _ _ _ _ (by simp)]; exact (KS _ HB7.out).2.2.2.2.2.2.1), (by rw [set_ne _ _ _ _ (by simp), set_ne _ _ _ _ (by simp), set_ne _ _ _ _ (by simp), set_ne _ _ _ _ (by simp), set_ne _ _ _ _ (by simp), set_ne _ _ _ _ (by simp), set_ne _ _ _ _ (by simp), set_ne _ _ _ _ (by simp)]; exact (KS _ HB7.out).2.2.2.2.2.2.2)⟩ | exact KS _ HB7.out | exact KS _ HB6.out | exact KS _ (Below.refl V.heap.size V).drew | exact KS _ (Below.refl V.heap.size V)) (first
    | (go_at_call 38; refine Calls.mono (KN _ ?hb).out ?_; (case hb => first | exact HV.out.1.drew | exact HV.out.1); rintro e w6 ⟨⟨ya, yn, yc⟩, rfl, H6⟩; have HB6 : Hid (Below V.heap.size V w6) := (by first | exact (Below.refl V.heap.size V).drew.trans H6.out.2 | exact H6.out.2))
    | (go_at_call 49; refine Calls.mono (KD _ ?hb).out ?_; (case hb => first | exact HV.out.1.trans (HB6.out.mono HV.out.1.size) | exact (HV.out.1.trans (HB6.out.mono HV.out.1.size)).drew); rintro e w7 ⟨⟨⟨ua1, un1, uc1⟩, ⟨ua2, un2, uc2⟩, ⟨ua3, un3, uc3⟩, ⟨ua4, un4, uc4⟩⟩, rfl, H7⟩; have HB7 : Hid (Below V.heap.size V w7) := (by first | exact HB6.out.trans (H7.out.2.mono HB6.out.size) | exact HB6.out.drew.trans (H7.out.2.mono HB6.out.size)); have z := KZ w7 HB7.out; have z0 : w7.cell? ⟨w.heap.size + 1, 0, none⟩ = some (.slice none 0 0) := (cell_of_block z.out rfl); have z1 : w7.cell? ⟨w.heap.size + 1, 1, none⟩ = some (.int .u16 0) := (cell_of_block z.out rfl); have z2 : w7.cell? ⟨w.heap.size + 1, 2, none⟩ = some (.int .u16 0) := (cell_of_block z.out rfl); have z3 : w7.cell? ⟨w.heap.size + 1, 3, none⟩ = some (.int .u32 0) := (cell_of_block z.out rfl); have z4 : w7.cell? ⟨w.heap.size + 1, 4, none⟩ = some (.slice none 0 0) := (cell_of_block z.out rfl); have z5 : w7.cell? ⟨w.heap.size + 1, 5, none⟩ = some (.slice none 0 0) := (cell_of_block z.out rfl); have z6 : w7.cell? ⟨w.heap.size + 1, 6, none⟩ = some (.slice none 0 0) := (cell_of_block z.out rfl); have z7 : w7.cell? ⟨w.heap.size + 1, 7, none⟩ = some (.slice none 0 0) := (cell_of_block z.out rfl); have f0 : w7.frozen? ⟨w.heap.size + 1, 0, none⟩ = false := (frozen_of_block z.out); have f1 : w7.frozen? ⟨w.heap.size + 1, 1, none⟩ = false := (frozen_of_block z.out); have f2 : w7.frozen? ⟨w.heap.size + 1, 2, none⟩ = false := (frozen_of_block z.out); have f3 : w7.frozen? ⟨w.heap.size + 1, 3, none⟩ = false := (frozen_of_block z.out); have f4 : w7.frozen? ⟨w.heap.size + 1, 4, none⟩ = false := (frozen_of_block z.out); have f5 : w7.frozen? ⟨w.heap.size + 1, 5, none⟩ = false := (frozen_of_block z.out); have f6 : w7.frozen? ⟨w.heap.size + 1, 6, none⟩ = false := (frozen_of_block z.out); have f7 : w7.frozen? ⟨w.heap.size + 1, 7, none⟩ = false := (frozen_of_block z.out); have p7 := block_lt z.out)
    | fail)
  have z8 : ((((((((w7.setCell ⟨w.heap.size + 1, 0, none⟩ (.slice ya yn yc)).setCell ⟨w.heap.size + 1, 1, none⟩ (.int .u16 (t : Int))).setCell ⟨w.heap.size + 1, 2, none⟩ (.int .u16 (cl : Int))).setCell ⟨w.heap.size + 1, 3, none⟩ (.int .u32 (tt : Int))).setCell ⟨w.heap.size + 1, 4, none⟩ (.slice ua1 un1 uc1)).setCell ⟨w.heap.size + 1, 5, none⟩ (.slice ua2 un2 uc2)).setCell ⟨w.heap.size + 1, 6, none⟩ (.slice ua3 un3 uc3)).setCell ⟨w.heap.size + 1, 7, none⟩ (.slice ua4 un4 uc4)).heap[w.heap.size + 1]? = some (.cells #[.slice ya yn yc, .int .u16 (t : Int), .int .u16 (cl : Int), .int .u32 (tt : Int), .slice ua1 un1 uc1, .slice ua2 un2 uc2, .slice ua3 un3 uc3, .slice ua4 un4 uc4] 79) := by
    exact put8 z.out _ _ _ _ _ _ _ _
  have HO8 : Hid (∀ j, j ≠ w.heap.size + 1 → ((((((((w7.setCell ⟨w.heap.size + 1, 0, none⟩ (.slice ya yn yc)).setCell ⟨w.heap.size + 1, 1, none⟩ (.int .u16 (t : Int))).setCell ⟨w.heap.size + 1, 2, none⟩ (.int .u16 (cl : Int))).setCell ⟨w.heap.size + 1, 3, none⟩ (.int .u32 (tt : Int))).setCell ⟨w.heap.size + 1, 4, none⟩ (.slice ua1 un1 uc1)).setCell ⟨w.heap.size + 1, 5, none⟩ (.slice ua2 un2 uc2)).setCell ⟨w.heap.size + 1, 6, none⟩ (.slice ua3 un3 uc3)).setCell ⟨w.heap.size + 1, 7, none⟩ (.slice ua4 un4 uc4)).heap[j]? = w7.heap[j]?) := fun j hj => put8_other w7 (w.heap.size + 1) _ _ _ _ _ _ _ _ j hj
  have HB8 : Hid (Below V.heap.size V w7 ∧ Below (w.heap.size + 1) w7 ((((((((w7.setCell ⟨w.heap.size + 1, 0, none⟩ (.slice ya yn yc)).setCell ⟨w.heap.size + 1, 1, none⟩ (.int .u16 (t : Int))).setCell ⟨w.heap.size + 1, 2, none⟩ (.int .u16 (cl : Int))).setCell ⟨w.heap.size + 1, 3, none⟩ (.int .u32 (tt : Int))).setCell ⟨w.heap.size + 1, 4, none⟩ (.slice ua1 un1 uc1)).setCell ⟨w.heap.size + 1, 5, none⟩ (.slice ua2 un2 uc2)).setCell ⟨w.heap.size + 1, 6, none⟩ (.slice ua3 un3 uc3)).setCell ⟨w.heap.size + 1, 7, none⟩ (.slice ua4 un4 uc4))) := ⟨HB7.out, put8_below w7 (w.heap.size + 1) _ _ _ _ _ _ _ _⟩
  generalize ((((((((w7.setCell ⟨w.heap.size + 1, 0, none⟩ (.slice ya yn yc)).setCell ⟨w.heap.size + 1, 1, none⟩ (.int .u16 (t : Int))).setCell ⟨w.heap.size + 1, 2, none⟩ (.int .u16 (cl : Int))).setCell ⟨w.heap.size + 1, 3, none⟩ (.int .u32 (tt : Int))).setCell ⟨w.heap.size + 1, 4, none⟩ (.slice ua1 un1 uc1)).setCell ⟨w.heap.size + 1, 5, none⟩ (.slice ua2 un2 uc2)).setCell ⟨w.heap.size + 1, 6, none⟩ (.slice ua3 un3 uc3)).setCell ⟨w.heap.size + 1, 7, none⟩ (.slice ua4 un4 uc4)) = w8 at *
  have y0 : w8.cell? ⟨w.heap.size + 1, 0, none⟩ = some (.slice ya yn yc) := cell_of_block z8 rfl
  have y1 : w8.cell? ⟨w.heap.size + 1, 1, none⟩ = some (.int .u16 (t : Int)) := cell_of_block z8 rfl
  have y2 : w8.cell? ⟨w.heap.size + 1, 2, none⟩ = some (.int .u16 (cl : Int)) := cell_of_block z8 rfl
  have y3 : w8.cell? ⟨w.heap.size + 1, 3, none⟩ = some (.int .u32 (tt : Int)) := cell_of_block z8 rfl
  have y4 : w8.cell? ⟨w.heap.size + 1, 4, none⟩ = some (.slice ua1 un1 uc1) := cell_of_block z8 rfl
  have y5 : w8.cell? ⟨w.heap.size + 1, 5, none⟩ = some (.slice ua2 un2 uc2) := cell_of_block z8 rfl
  have y6 : w8.cell? ⟨w.heap.size + 1, 6, none⟩ = some (.slice ua3 un3 uc3) := cell_of_block z8 rfl
  have y7 : w8.cell? ⟨w.heap.size + 1, 7, none⟩ = some (.slice ua4 un4 uc4) := cell_of_block z8 rfl
  have y8 := block_lt z8
  clear z8 z0 f0 z1 f1 z2 f2 z3 f3 z4 f4 z5 f5 z6 f6 z7 f7 KS KZ
  go_wp2
  have hs := HV.out.2.2.2
  have h67 : Hid (Below w6.heap.size w6 w7) := H7.out.2
  refine bodyPost_ret (v := .agg #[.slice ya yn yc, .int .u16 (t : Int), .int .u16 (cl : Int), .int .u32 (tt : Int), .slice ua1 un1 uc1, .slice ua2 un2 uc2, .slice ua3 un3 uc3, .slice ua4 un4 uc4]) ?_ rfl ⟨⟨⟨ya, yn, yc⟩, ⟨⟨ua1, un1, uc1⟩, ⟨ua2, un2, uc2⟩, ⟨ua3, un3, uc3⟩, ⟨ua4, un4, uc4⟩⟩⟩, rfl, ⟨?_, ?_⟩, ?_⟩
  · simp [results, Try.results39, go_sem, y0, y1, y2, y3, y4, y5, y6, y7]
  · have h6 : Owx1 V.heap.size w6 ⟨ya, yn, yc⟩ ow := H6.out.1
    exact ((h6.stays h67.out).keep fun j h1 _ _ => HO8.out j (by omega)).mono (by omega)
  · have h7 : DOwx w6.heap.size w7 ⟨⟨ua1, un1, uc1⟩, ⟨ua2, un2, uc2⟩, ⟨ua3, un3, uc3⟩, ⟨ua4, un4, uc4⟩⟩ d := H7.out.1
    have hv6 := HB6.out.size
    exact (h7.keep fun j h1 _ => HO8.out j (by omega)).mono (by omega)
  · exact (HV.out.1.trans (HB8.out.1.mono (by omega))).trans (HB8.out.2.mono (by omega))
end Go.Proofs.Ytmlccnpondemiaa
