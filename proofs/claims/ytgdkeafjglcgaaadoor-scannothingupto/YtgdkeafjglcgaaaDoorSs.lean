/- An entry's text is written. -/
import Derived.Test.YtgdkeafjglcgaaaDoorSr
import Derived.Test.YtgdkeafjglcgaaaDoorWst
namespace Go.Proofs.YtgdkeafjglcgaaaDoor
open Go.ChangeShapes Go.WideShapes Go.ChangeAt Go.RowKit
set_option linter.unusedVariables false
set_option linter.unusedSimpArgs false


/-- Blocks that are neither a Builder's nor bytes stay. -/
def Oth (w w' : World) : Prop := ∀ (k : Nat) (cs : Array Value) (t : TypeId) (f : Nat × Nat), w.heap[k]? = some (.cells cs t f) → t ≠ 51 → t ≠ 5 → w'.heap[k]? = w.heap[k]?
theorem checkF (B b : Nat) (bs : List Value) (w : World) (h : GS B w b bs) (hB : B ≤ b) :
    Calls Tryd.prog 54 #[.pointer (some ⟨b, 0, none⟩)] w fun e w' => e = .returned (.tuple #[]) ∧ Hid (GU B w' b bs ∧ Below B w w' ∧ Oth w w') := by
  rcases h with ⟨h1, rfl⟩ | ⟨⟨v, h1, h3, h4⟩, _⟩
  · refine (check_fresh b _ w h1).mono ?_
    rintro e w' ⟨rfl, rfl⟩
    refine ⟨rfl, ⟨.slice none 0 0, ?_, World.ownsRow_nil _ _ _ _, by simp [Value.ownBlock]⟩, (Below.refl _ _).setCell hB _, ?_⟩
    · have := heap_set h1 0 (.pointer (some ⟨b, 0, none⟩))
      simpa [BB] using this
    · intro k cs t f hk h50 h5
      refine Below.heap_setCell _ _ _ _ (fun e => ?_)
      simp only at e
      have h1' : w.heap[b]? = _ := h1
      rw [e, h1'] at hk; cases hk; exact h50 rfl
  · refine (check_used b v w h1).mono ?_
    rintro e w' ⟨rfl, rfl⟩
    exact ⟨rfl, ⟨v, h1, h3, h4⟩, Below.refl _ _, fun _ _ _ _ _ _ _ => rfl⟩
set_option maxRecDepth 100000 in
set_option maxHeartbeats 1000000 in
theorem wbyteF (B b : Nat) (bs : List Value) (z : Int) (w : World) (h : GS B w b bs) (hB : B ≤ b) (hl : bs.length + 1 ≤ 140737488355328) :
    Calls Tryd.prog 35 #[.pointer (some ⟨b, 0, none⟩), .int .u8 z] w fun e w' => e = .returned .nilIface ∧ Hid (GS B w' b (bs ++ [.int .u8 z]) ∧ Below B w w' ∧ Oth w w') := by
  have HG : Hid (GS B w b bs) := h
  clear h
  go_enter Tryd.func35, Tryd.ntmps35
  go_wp2_with fail
  refine (checkF B b bs _ HG.out hB).mono ?_
  rintro e w1 ⟨rfl, H1⟩
  obtain ⟨v, h1, h2, h4⟩ := H1.out.1
  have HB1 : Hid (Below B w w1) := H1.out.2.1
  have HO1 : Hid (Oth w w1) := H1.out.2.2
  have HB : Hid (BB w1 b (.pointer (some ⟨b, 0, none⟩)) v ∧ w1.ownsRow B 5 1 v bs.length bs) := ⟨h1, h2⟩
  have c1 := h1.c1
  have hlt := h1.lt
  clear h1 h2 H1 HG
  obtain ⟨i5, hi, hz0, hz1, hz2⟩ := info_parts Tryd.info5
  have HI : Hid (Tryd.prog.info? 5 = some i5 ∧ i5.zero = some (.int .u8 0) ∧ i5.size = 1 ∧ i5.bytes = 1) := ⟨hi, hz0, hz1, hz2⟩
  clear hi hz0 hz1 hz2
  have HO : Hid ((w1.alloc (.cells #[.int .u8 z] 5)).ownsRow B 5 1 v bs.length bs) := HB.out.2.alloc _
  have HC : Hid (∀ j u, ([.int .u8 z] : List Value)[j]? = some u → (w1.alloc (.cells #[.int .u8 z] 5)).cell? ((⟨w1.heap.size, 0, none⟩ : Addr).add j) = some u) := by
    intro j u hu
    have hj : j = 0 := by have := (List.getElem?_eq_some_iff.1 hu).1; simp at this; omega
    subst hj
    simp at hu
    subst hu
    simp [go_sem, Addr.add]
  go_wp2_with (at_builtin; refine wpList_append_own _ rfl _ _ 49 rfl B 5 i5 (.int .u8 0) 1 1 Tryd.underlying49 HI.out.1 HI.out.2.1 HI.out.2.2.1 HI.out.2.2.2 rfl (by decide) v bs.length bs rfl HO.out ⟨w1.heap.size, 0, none⟩ 1 1 [.int .u8 z] rfl rfl HC.out (by intro u hu; simp at hu; subst hu; rfl) (by simp only [maxLen]; omega) (by omega) (by simp; omega) ?_; intro v' w2 hown2 hgr2 hnil; obtain ⟨ao, cc, rfl⟩ := row_shape hown2; have hbk : Hid (w2.heap[b]? = w1.heap[b]?) := (hgr2.block b (by simp; omega) (fun e => h4 e.symm)).trans (Below.heap_alloc _ _ b hlt); have d1 := (HB.out.1.same hbk.out).c1; have d2 := (HB.out.1.same hbk.out).fz 1; have HG2 : Hid ((w1.alloc (.cells #[.int .u8 z] 5)).grownBy w2 v.ownBlock ∧ w2.ownsRow B 5 1 (.slice ao (bs.length + 1) cc) (bs.length + 1) (bs ++ [.int .u8 z])) := ⟨hgr2, hown2⟩; clear hown2 hgr2 hnil)
  go_ret
  have hb2 := HB.out.1.same hbk.out
  have hrow : ∀ g, v.ownBlock = some g → B ≤ g := fun g hg => (HB.out.2.lt g hg).1
  have hbel : Below B w1 w2 := ((Below.refl B w1).alloc (by omega) _).grown HG2.out.1 (by simp; omega) hrow
  have hne : (Value.slice ao (bs.length + 1) cc).ownBlock ≠ some b := by
    intro e
    obtain ⟨_, hc | ⟨g, cap, cur, hv, _, hg, _⟩⟩ := HG2.out.2
    · rw [hc.1] at e; simp [Value.ownBlock] at e
    · rw [hv] at e
      have e2 : g = b := by simpa [Value.ownBlock] using e
      rw [e2] at hg
      have hb3 : w2.heap[b]? = _ := hb2
      rw [hb3] at hg
      injection hg with hg
      injection hg with _ hg _
      exact absurd hg (by decide)
  refine ⟨rfl, .inr ⟨⟨.slice ao (bs.length + 1) cc, ?_, ?_, hne⟩, by simp⟩, HB1.out.trans (hbel.setCell hB _), ?_⟩
  · have := heap_set hb2 1 (.slice ao (bs.length + 1) cc)
    simpa [BB] using this
  · have := row_set HG2.out.2 hne 1 (.slice ao (bs.length + 1) cc)
    simpa using this
  · intro k cs t f hk h50 h5
    have e1 := HO1.out k cs t f hk h50 h5
    have hk1 := e1.trans hk
    have hlk : k < w1.heap.size := (Array.getElem?_eq_some_iff.1 hk1).1
    have hkb : k ≠ b := fun e => by
      have h1' : w1.heap[b]? = _ := HB.out.1
      rw [e, h1'] at hk1; cases hk1; exact h50 rfl
    have hkr : some k ≠ v.ownBlock := fun e => by
      obtain ⟨cur, hc⟩ := row_type HB.out.2 k e.symm
      rw [hc] at hk1; cases hk1; exact h5 rfl
    rw [Below.heap_setCell _ _ _ _ hkb, HG2.out.1.block k (by simp; omega) hkr, Below.heap_alloc _ _ k hlk]
    exact e1
theorem GS.go {B : Nat} {w w' : World} {b : Nat} {bs : List Value} (h : GS B w b bs) (hb : Below w.heap.size w w') : GS B w' b bs := by
  rcases h with ⟨h1, h2⟩ | ⟨⟨v, h1, h3, h4⟩, h5⟩
  · exact .inl ⟨h1.same (hb.block b h1.lt), h2⟩
  · exact .inr ⟨⟨v, h1.same (hb.block b h1.lt), row_stays h3 (fun g hg => hb.block g (h3.lt g hg).2), h4⟩, h5⟩
theorem wsTxt_snoc (l : List Wd) (v : Wd) : wsTxt (l ++ [v]) = wsTxt l ++ ((if l.isEmpty then [] else [32]) ++ wtxt v) := by
  induction l with
  | nil => simp [wsTxt]
  | cons a l ih =>
    cases l with
    | nil => simp [wsTxt]
    | cons c l =>
      simp only [List.cons_append, wsTxt] at ih ⊢
      rw [ih]; simp
theorem wsTxt_le {ws : List Wd} (h : ∀ v ∈ ws, wsz v ≤ 65536) : (wsTxt ws).length ≤ ws.length * 65537 := by
  induction ws with
  | nil => simp [wsTxt]
  | cons a l ih =>
    have h1 := ih (fun x hx => h x (by simp [hx]))
    have h2 := h a (by simp)
    cases l with
    | nil => simp only [wsTxt, wtxt_len, List.length_cons, List.length_nil]; omega
    | cons c l =>
      simp only [wsTxt, List.length_append, List.length_cons, wtxt_len] at h1 ⊢
      omega
theorem bc_app (a b : List UInt8) : Lib.byteCells (a ++ b) = Lib.byteCells a ++ Lib.byteCells b := by simp [Lib.byteCells]
theorem bc_32 : Lib.byteCells [32] = [.int .u8 32] := rfl
theorem bc_10 : Lib.byteCells [10] = [.int .u8 10] := rfl
theorem wbyteL (B b : Nat) (l : List UInt8) (c : UInt8) (w : World) (h : GS B w b (Lib.byteCells l)) (hB : B ≤ b) (hl : l.length + 1 ≤ 140737488355328) :
    Calls Tryd.prog 35 #[.pointer (some ⟨b, 0, none⟩), .int .u8 (c.toNat : Int)] w fun e w' => e = .returned .nilIface ∧ Hid (GS B w' b (Lib.byteCells (l ++ [c])) ∧ Below B w w' ∧ Oth w w') := by
  have h2 := wbyteF B b (Lib.byteCells l) (c.toNat : Int) w h hB (by rw [Lib.byteCells_length]; exact hl)
  have e : Lib.byteCells l ++ [Value.int .u8 (c.toNat : Int)] = Lib.byteCells (l ++ [c]) := by rw [bc_app]; simp [Lib.byteCells]
  rw [e] at h2; exact h2
theorem wstrL (B b : Nat) (l : List UInt8) (s : ByteArray) (w : World) (h : GS B w b (Lib.byteCells l)) (hB : B ≤ b) (hs0 : 0 < s.size) (hl : l.length + s.size ≤ 140737488355328) :
    Calls Tryd.prog 36 #[.pointer (some ⟨b, 0, none⟩), .string s] w fun e w' => e = .returned (.tuple #[.int .i64 s.size, .nilIface]) ∧ Hid (GS B w' b (Lib.byteCells (l ++ s.data.toList)) ∧ Below B w w') := by
  have h2 := wstr B b (Lib.byteCells l) s w h hB hs0 (by rw [Lib.byteCells_length]; exact hl)
  rw [← bc_app] at h2; exact h2
theorem GS.lt {B : Nat} {w : World} {b : Nat} {bs : List Value} (h : GS B w b bs) : b < w.heap.size := by
  rcases h with ⟨h1, _⟩ | ⟨⟨v, h1, _⟩, _⟩
  · exact h1.lt
  · exact h1.lt
theorem box_stays {w w' : World} {k : Nat} {cs : Array Value} {t : TypeId} (h : w.heap[k]? = some (.cells cs t (0, 0))) (ho : Oth w w') (h1 : t ≠ 51) (h2 : t ≠ 5) : w'.heap[k]? = some (.cells cs t (0, 0)) := (ho k cs t _ h h1 h2).trans h
theorem cell_of {w : World} {k i : Nat} {cs : Array Value} {t : TypeId} {v : Value} (h : w.heap[k]? = some (.cells cs t (0, 0))) (hi : cs[i]? = some v) : w.cell? ⟨k, i, none⟩ = some v := by simp [World.cell?, h, hi]
theorem blk_lt {w : World} {k : Nat} {o : Obj} (h : w.heap[k]? = some o) : k < w.heap.size := (Array.getElem?_eq_some_iff.1 h).1
end Go.Proofs.YtgdkeafjglcgaaaDoor
