/- Picked out of earlier texts. -/
import Derived.Test.YtgdkeafjglcgaaaDoorBld2
import Derived.Lib.AppendStr
namespace Go.Proofs.YtgdkeafjglcgaaaDoor
open Go.ChangeShapes Go.WideShapes Go.ChangeAt Go.RowKit
set_option linter.unusedVariables false
set_option linter.unusedSimpArgs false




theorem strCells_eq (s : ByteArray) : Lib.strCells s = Lib.byteCells s.data.toList := by
  simp [Lib.strCells, Lib.byteCells]
set_option maxRecDepth 100000 in
set_option maxHeartbeats 1000000 in
theorem wstr (B b : Nat) (bs : List Value) (s : ByteArray) (w : World) (h : GS B w b bs) (hB : B ≤ b) (hs0 : 0 < s.size) (hl : bs.length + s.size ≤ 140737488355328) :
    Calls Tryd.prog 36 #[.pointer (some ⟨b, 0, none⟩), .string s] w fun e w' => e = .returned (.tuple #[.int .i64 s.size, .nilIface]) ∧ Hid (GS B w' b (bs ++ Lib.byteCells s.data.toList) ∧ Below B w w') := by
  have HG : Hid (GS B w b bs) := h
  have hcl : (Lib.byteCells s.data.toList).length = s.size := by rw [Lib.byteCells_length]; rfl
  have HCL : Hid ((Lib.byteCells s.data.toList).length = s.size) := hcl
  clear h hcl
  go_enter Tryd.func36, Tryd.ntmps36
  go_wp2_with fail
  refine (check_any B b bs _ HG.out hB).mono ?_
  rintro e w1 ⟨rfl, H1⟩
  obtain ⟨v, h1, h2, h4⟩ := H1.out.1
  have HB1 : Hid (Below B w w1) := H1.out.2
  have HB : Hid (BB w1 b (.pointer (some ⟨b, 0, none⟩)) v ∧ w1.ownsRow B 5 1 v bs.length bs) := ⟨h1, h2⟩
  have c1 := h1.c1
  have hlt := h1.lt
  clear h1 h2 H1 HG
  obtain ⟨i5, hi, hz0, hz1, hz2⟩ := info_parts Tryd.info5
  have HI : Hid (Tryd.prog.info? 5 = some i5 ∧ i5.zero = some (.int .u8 0) ∧ i5.size = 1 ∧ i5.bytes = 1) := ⟨hi, hz0, hz1, hz2⟩
  clear hi hz0 hz1 hz2
  go_wp2_with (at_builtin; refine Lib.wpList_append_own_string _ rfl _ _ 49 9 rfl B 5 i5 Tryd.underlying49 Tryd.underlying9 HI.out.1 HI.out.2.1 HI.out.2.2.1 HI.out.2.2.2 v bs.length bs rfl HB.out.2 s rfl (by simp only [maxLen]; omega) (by omega) (by omega) ?_; intro v' w2 hown2 hgr2 hnil; obtain ⟨ao, cc, rfl⟩ := row_shape hown2; have hbk : Hid (w2.heap[b]? = w1.heap[b]?) := (hgr2.block b hlt (fun e => h4 e.symm)); have d1 := (HB.out.1.same hbk.out).c1; have d2 := (HB.out.1.same hbk.out).fz 1; have HG2 : Hid (w1.grownBy w2 v.ownBlock ∧ w2.ownsRow B 5 1 (.slice ao (bs.length + s.size) cc) (bs.length + s.size) (bs ++ Lib.byteCells s.data.toList)) := ⟨hgr2, by rw [← strCells_eq]; exact hown2⟩; clear hown2 hgr2 hnil)
  go_ret2
  have hb2 := HB.out.1.same hbk.out
  have hrow : ∀ g, v.ownBlock = some g → B ≤ g := fun g hg => (HB.out.2.lt g hg).1
  have hbel : Below B w1 w2 := (Below.refl B w1).grown HG2.out.1 (by omega) hrow
  have hne : (Value.slice ao (bs.length + s.size) cc).ownBlock ≠ some b := by
    intro e
    obtain ⟨_, hc | ⟨g, cap, cur, hv, _, hg, _⟩⟩ := HG2.out.2
    · rw [hc.1] at e; simp [Value.ownBlock] at e
    · rw [hv] at e
      have e2 : g = b := by simpa [Value.ownBlock] using e
      rw [e2] at hg
      have hb3 : w2.heap[b]? = _ := hb2
      rw [hb3] at hg
      injection hg with hg
      injection hg with _ hg _
      exact absurd hg (by decide)
  have hn2 : bs ++ Lib.byteCells s.data.toList ≠ [] := by
    intro e
    have := congrArg List.length e
    rw [List.length_append, HCL.out, List.length_nil] at this
    omega
  refine ⟨rfl, .inr ⟨⟨.slice ao (bs.length + s.size) cc, ?_, ?_, hne⟩, hn2⟩, HB1.out.trans (hbel.setCell hB _)⟩
  · have := heap_set hb2 1 (.slice ao (bs.length + s.size) cc)
    simpa [BB] using this
  · have := row_set HG2.out.2 hne 1 (.slice ao (bs.length + s.size) cc)
    rw [List.length_append, HCL.out]
    exact this
theorem cells_append (a b : ByteArray) : Lib.byteCells (a ++ b).data.toList = Lib.byteCells a.data.toList ++ Lib.byteCells b.data.toList := by
  simp [Lib.byteCells]
end Go.Proofs.YtgdkeafjglcgaaaDoor
