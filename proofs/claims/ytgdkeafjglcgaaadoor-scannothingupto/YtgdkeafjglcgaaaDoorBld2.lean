/- What a Builder does that was given no room ahead. -/
import Derived.Test.YtgdkeafjglcgaaaDoorBld
import Derived.Laws.AppendOwn
namespace Go.Proofs.YtgdkeafjglcgaaaDoor
open Go.ChangeShapes Go.WideShapes Go.ChangeAt Go.RowKit
set_option linter.unusedVariables false
set_option linter.unusedSimpArgs false




/-- A Builder that knows itself, and holds bs. -/
def GU (B : Nat) (w : World) (b : Nat) (bs : List Value) : Prop :=
  ∃ v, BB w b (.pointer (some ⟨b, 0, none⟩)) v ∧ w.ownsRow B 5 1 v bs.length bs ∧ v.ownBlock ≠ some b
/-- A Builder that holds bs. -/
def GS (B : Nat) (w : World) (b : Nat) (bs : List Value) : Prop :=
  (BB w b (.pointer none) (.slice none 0 0) ∧ bs = []) ∨ (GU B w b bs ∧ bs ≠ [])
theorem GS.fresh (w : World) : GS w.heap.size (w.alloc (.cells #[.pointer none, .slice none 0 0] 51)) w.heap.size [] :=
  .inl ⟨heap_alloc_new _ _, rfl⟩
theorem row_shape {B : Nat} {w : World} {e z : Nat} {v : Value} {n : Nat} {bs : List Value} (h : w.ownsRow B e z v n bs) : ∃ ao c, v = .slice ao n c := by
  rcases h.2 with ⟨rfl, rfl⟩ | ⟨g, cap, cur, rfl, _⟩
  · exact ⟨none, 0, rfl⟩
  · exact ⟨_, _, rfl⟩
theorem row_set {B : Nat} {w : World} {b : Nat} {v : Value} {n : Nat} {bs : List Value} (h : w.ownsRow B 5 1 v n bs) (hne : v.ownBlock ≠ some b) (i : Nat) (x : Value) : (w.setCell ⟨b, i, none⟩ x).ownsRow B 5 1 v n bs :=
  h.kept (row := some b) ⟨rfl, rfl, rfl, by simp [World.setCell], fun k _ hk => Below.heap_setCell _ _ _ _ (fun e => hk (by simp [e]))⟩ (.inr hne)
theorem check_any (B b : Nat) (bs : List Value) (w : World) (h : GS B w b bs) (hB : B ≤ b) :
    Calls Tryd.prog 54 #[.pointer (some ⟨b, 0, none⟩)] w fun e w' => e = .returned (.tuple #[]) ∧ Hid (GU B w' b bs ∧ Below B w w') := by
  rcases h with ⟨h1, rfl⟩ | ⟨⟨v, h1, h3, h4⟩, _⟩
  · refine (check_fresh b _ w h1).mono ?_
    rintro e w' ⟨rfl, rfl⟩
    refine ⟨rfl, ⟨.slice none 0 0, ?_, World.ownsRow_nil _ _ _ _, by simp [Value.ownBlock]⟩, (Below.refl _ _).setCell hB _⟩
    have := heap_set h1 0 (.pointer (some ⟨b, 0, none⟩))
    simpa [BB] using this
  · refine (check_used b v w h1).mono ?_
    rintro e w' ⟨rfl, rfl⟩
    exact ⟨rfl, ⟨v, h1, h3, h4⟩, Below.refl _ _⟩
set_option maxRecDepth 100000 in
set_option maxHeartbeats 1000000 in
theorem wbyte (B b : Nat) (bs : List Value) (z : Int) (w : World) (h : GS B w b bs) (hB : B ≤ b) (hl : bs.length + 1 ≤ 140737488355328) :
    Calls Tryd.prog 35 #[.pointer (some ⟨b, 0, none⟩), .int .u8 z] w fun e w' => e = .returned .nilIface ∧ Hid (GS B w' b (bs ++ [.int .u8 z]) ∧ Below B w w') := by
  have HG : Hid (GS B w b bs) := h
  clear h
  go_enter Tryd.func35, Tryd.ntmps35
  go_wp2_with fail
  refine (check_any B b bs _ HG.out hB).mono ?_
  rintro e w1 ⟨rfl, H1⟩
  obtain ⟨v, h1, h2, h4⟩ := H1.out.1
  have HB1 : Hid (Below B w w1) := H1.out.2
  have HB : Hid (BB w1 b (.pointer (some ⟨b, 0, none⟩)) v ∧ w1.ownsRow B 5 1 v bs.length bs) := ⟨h1, h2⟩
  have c1 := h1.c1
  have hlt := h1.lt
  clear h1 h2 H1 HG
  obtain ⟨i5, hi, hz0, hz1, hz2⟩ := info_parts Tryd.info5
  have HI : Hid (Tryd.prog.info? 5 = some i5 ∧ i5.zero = some (.int .u8 0) ∧ i5.size = 1 ∧ i5.bytes = 1) := ⟨hi, hz0, hz1, hz2⟩
  clear hi hz0 hz1 hz2
  have HO : Hid ((w1.alloc (.cells #[.int .u8 z] 5)).ownsRow B 5 1 v bs.length bs) := HB.out.2.alloc _
  have HC : Hid (∀ j u, ([.int .u8 z] : List Value)[j]? = some u → (w1.alloc (.cells #[.int .u8 z] 5)).cell? ((⟨w1.heap.size, 0, none⟩ : Addr).add j) = some u) := by
    intro j u hu
    have hj : j = 0 := by have := (List.getElem?_eq_some_iff.1 hu).1; simp at this; omega
    subst hj
    simp at hu
    subst hu
    simp [go_sem, Addr.add]
  go_wp2_with (at_builtin; refine wpList_append_own _ rfl _ _ 49 rfl B 5 i5 (.int .u8 0) 1 1 Tryd.underlying49 HI.out.1 HI.out.2.1 HI.out.2.2.1 HI.out.2.2.2 rfl (by decide) v bs.length bs rfl HO.out ⟨w1.heap.size, 0, none⟩ 1 1 [.int .u8 z] rfl rfl HC.out (by intro u hu; simp at hu; subst hu; rfl) (by simp only [maxLen]; omega) (by omega) (by simp; omega) ?_; intro v' w2 hown2 hgr2 hnil; obtain ⟨ao, cc, rfl⟩ := row_shape hown2; have hbk : Hid (w2.heap[b]? = w1.heap[b]?) := (hgr2.block b (by simp; omega) (fun e => h4 e.symm)).trans (Below.heap_alloc _ _ b hlt); have d1 := (HB.out.1.same hbk.out).c1; have d2 := (HB.out.1.same hbk.out).fz 1; have HG2 : Hid ((w1.alloc (.cells #[.int .u8 z] 5)).grownBy w2 v.ownBlock ∧ w2.ownsRow B 5 1 (.slice ao (bs.length + 1) cc) (bs.length + 1) (bs ++ [.int .u8 z])) := ⟨hgr2, hown2⟩; clear hown2 hgr2 hnil)
  go_ret
  have hb2 := HB.out.1.same hbk.out
  have hrow : ∀ g, v.ownBlock = some g → B ≤ g := fun g hg => (HB.out.2.lt g hg).1
  have hbel : Below B w1 w2 := ((Below.refl B w1).alloc (by omega) _).grown HG2.out.1 (by simp; omega) hrow
  have hne : (Value.slice ao (bs.length + 1) cc).ownBlock ≠ some b := by
    intro e
    obtain ⟨_, hc | ⟨g, cap, cur, hv, _, hg, _⟩⟩ := HG2.out.2
    · rw [hc.1] at e; simp [Value.ownBlock] at e
    · rw [hv] at e
      have e2 : g = b := by simpa [Value.ownBlock] using e
      rw [e2] at hg
      have hb3 : w2.heap[b]? = _ := hb2
      rw [hb3] at hg
      injection hg with hg
      injection hg with _ hg _
      exact absurd hg (by decide)
  refine ⟨rfl, .inr ⟨⟨.slice ao (bs.length + 1) cc, ?_, ?_, hne⟩, by simp⟩, HB1.out.trans (hbel.setCell hB _)⟩
  · have := heap_set hb2 1 (.slice ao (bs.length + 1) cc)
    simpa [BB] using this
  · have := row_set HG2.out.2 hne 1 (.slice ao (bs.length + 1) cc)
    simpa using this
set_option maxRecDepth 100000 in
set_option maxHeartbeats 1000000 in
theorem wstring (B b : Nat) (l : List UInt8) (w : World) (h : GS B w b (Lib.byteCells l)) (hl : l.length ≤ 9223372036854775807) :
    Calls Tryd.prog 22 #[.pointer (some ⟨b, 0, none⟩)] w fun e w' => e = .returned (.string ⟨l.toArray⟩) ∧ Hid (Below B w w') := by
  rcases h with ⟨h1, h0⟩ | ⟨⟨v, h1, h2, h4⟩, hne⟩
  · have hl0 : l = [] := by
      have := congrArg List.length h0
      rw [Lib.byteCells_length] at this
      exact List.eq_nil_of_length_eq_zero this
    subst hl0
    have c1 := h1.c1
    have s1 : ∀ (W : World) (ts : Array TypeId) (ty : TypeId), (Builtin.unsafeSliceData_ ts ty #[.slice none 0 0]).run Tryd.prog W = .ok (.pointer none) W := fun W ts ty => Lib.run_unsafeSliceData_nil W ts ty 0 0
    have s2 : ∀ (W : World) (ty : TypeId), (Builtin.unsafeString_ #[71, 3] ty #[.pointer none, .int .i64 0]).run Tryd.prog W = .ok (.string .empty) W := fun W ty => Lib.run_unsafeString_none W 71 3 ty none
    clear h1 h0
    go_enter Tryd.func22, Tryd.ntmps22
    go_wp2_with fail
    go_region_held3 (fun W => W.cell? ⟨b, 1, none⟩ = some (.slice none 0 0)) (go_keep) (fail)
    go_wp2
    go_ret
    exact ⟨rfl, (Below.refl _ _).drew⟩
  · refine bstring B b l.length l w (.inr ?_) rfl hl
    have hlen := Lib.byteCells_length l
    have hpos : 0 < (Lib.byteCells l).length := List.length_pos_iff.2 hne
    rcases h2.2 with ⟨_, h0⟩ | ⟨g, cap, cur, rfl, hBg, hg, hn, hm, hs, hx⟩
    · omega
    · exact ⟨g, cap, h1, h2, by omega, fun e => h4 (by rw [e]; rfl), (h2.lt g rfl).2, by omega⟩
end Go.Proofs.YtgdkeafjglcgaaaDoor
