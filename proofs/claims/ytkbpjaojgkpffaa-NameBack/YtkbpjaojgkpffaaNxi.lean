/- The program's names: their text. -/
import Derived.Test.YtkbpjaojgkpffaaNxa
import Derived.Lib.AppendStr
namespace Go.Proofs.Ytkbpjaojgkpffaa
open Go.ChangeShapes Go.WideShapes Go.ChangeAt Go.RowKit
set_option linter.unusedVariables false
set_option linter.unusedSimpArgs false

theorem strCells_eq (s : ByteArray) : Lib.strCells s = Lib.byteCells s.data.toList := by
  simp [Lib.strCells, Lib.byteCells]

set_option maxRecDepth 100000 in
set_option maxHeartbeats 1000000 in
theorem wstr (B b : Nat) (bs : List Value) (s : ByteArray) (w : World) (h : GS B w b bs) (hB : B ≤ b) (hs0 : 0 < s.size) (hl : bs.length + s.size ≤ 140737488355328) :
    Calls Try.prog 68 #[.pointer (some ⟨b, 0, none⟩), .string s] w fun e w' => e = .returned (.tuple #[.int .i64 s.size, .nilIface]) ∧ Hid (GS B w' b (bs ++ Lib.byteCells s.data.toList) ∧ Below B w w') := by
  have HG : Hid (GS B w b bs) := h
  have hcl : (Lib.byteCells s.data.toList).length = s.size := by rw [Lib.byteCells_length]; rfl
  have HCL : Hid ((Lib.byteCells s.data.toList).length = s.size) := hcl
  clear h hcl
  go_enter Try.func68, Try.ntmps68
  go_wp2_with fail
  refine (check_any B b bs _ HG.out hB).mono ?_
  rintro e w1 ⟨rfl, H1⟩
  obtain ⟨v, h1, h2, h4⟩ := H1.out.1
  have HB1 : Hid (Below B w w1) := H1.out.2
  have HB : Hid (BB w1 b (.pointer (some ⟨b, 0, none⟩)) v ∧ w1.ownsRow B 5 1 v bs.length bs) := ⟨h1, h2⟩
  have c1 := h1.c1
  have hlt := h1.lt
  clear h1 h2 H1 HG
  obtain ⟨i5, hi, hz0, hz1, hz2⟩ := info_parts Try.info5
  have HI : Hid (Try.prog.info? 5 = some i5 ∧ i5.zero = some (.int .u8 0) ∧ i5.size = 1 ∧ i5.bytes = 1) := ⟨hi, hz0, hz1, hz2⟩
  clear hi hz0 hz1 hz2
  go_wp2_with (at_builtin; refine Lib.wpList_append_own_string _ rfl _ _ 51 9 rfl B 5 i5 Try.underlying51 Try.underlying9 HI.out.1 HI.out.2.1 HI.out.2.2.1 HI.out.2.2.2 v bs.length bs rfl HB.out.2 s rfl (by simp only [maxLen]; omega) (by omega) (by omega) ?_; intro v' w2 hown2 hgr2 hnil; obtain ⟨ao, cc, rfl⟩ := row_shape hown2; have hbk : Hid (w2.heap[b]? = w1.heap[b]?) := (hgr2.block b hlt (fun e => h4 e.symm)); have d1 := (HB.out.1.same hbk.out).c1; have d2 := (HB.out.1.same hbk.out).fz 1; have HG2 : Hid (w1.grownBy w2 v.ownBlock ∧ w2.ownsRow B 5 1 (.slice ao (bs.length + s.size) cc) (bs.length + s.size) (bs ++ Lib.byteCells s.data.toList)) := ⟨hgr2, by rw [← strCells_eq]; exact hown2⟩; clear hown2 hgr2 hnil)
  go_ret2
  have hb2 := HB.out.1.same hbk.out
  have hrow : ∀ g, v.ownBlock = some g → B ≤ g := fun g hg => (HB.out.2.lt g hg).1
  have hbel : Below B w1 w2 := (Below.refl B w1).grown HG2.out.1 (by omega) hrow
  have hne : (Value.slice ao (bs.length + s.size) cc).ownBlock ≠ some b := by
    intro e
    obtain ⟨_, hc | ⟨g, cap, cur, hv, _, hg, _⟩⟩ := HG2.out.2
    · rw [hc.1] at e; simp [Value.ownBlock] at e
    · rw [hv] at e
      have e2 : g = b := by simpa [Value.ownBlock] using e
      rw [e2] at hg
      have hb3 : w2.heap[b]? = _ := hb2
      rw [hb3] at hg
      injection hg with hg
      injection hg with _ hg _
      exact absurd hg (by decide)
  have hn2 : bs ++ Lib.byteCells s.data.toList ≠ [] := by
    intro e
    have := congrArg List.length e
    rw [List.length_append, HCL.out, List.length_nil] at this
    omega
  refine ⟨rfl, .inr ⟨⟨.slice ao (bs.length + s.size) cc, ?_, ?_, hne⟩, hn2⟩, HB1.out.trans (hbel.setCell hB _)⟩
  · have := heap_set hb2 1 (.slice ao (bs.length + s.size) cc)
    simpa [BB] using this
  · have := row_set HG2.out.2 hne 1 (.slice ao (bs.length + s.size) cc)
    rw [List.length_append, HCL.out]
    exact this
theorem cells_append (a b : ByteArray) : Lib.byteCells (a ++ b).data.toList = Lib.byteCells a.data.toList ++ Lib.byteCells b.data.toList := by
  simp [Lib.byteCells]
theorem tb_pos (s : ByteArray) (h : 1 ≤ s.size) : 0 < (tb s).size := by
  have e : (tb s).size = (tx (nums s)).length := txt_size _
  have hl := nums_len s
  rw [e]
  cases hn : nums s with
  | nil => rw [hn] at hl; simp at hl; omega
  | cons x l =>
    have := (tx1_len x).2
    simp only [tx, List.flatMap_cons, List.length_append]
    omega

set_option maxRecDepth 100000 in
set_option maxHeartbeats 1000000 in
theorem ptext_any (a : Option Addr) (n c : Nat) (ss : List ByteArray) (w : World) (h : Nm w a n ss) : Calls Try.prog 36 #[.slice a n c] w fun e w' => e = .returned (.tuple #[.string (ntext ss).1, .int .i64 (ntext ss).2]) ∧ Hid (Below w.heap.size w w') := by
  have KC : Hid (Calls Try.prog 11 #[.slice a n c] w fun e w' => e = .returned (.int .i64 (nck ss)) ∧ w' = w) := pm_check c h
  have HN : Hid (Nm w a n ss) := h
  have hn := h.n63
  have HL : Hid (ss.length = n) := h.len
  by_cases hk : nck ss = 0
  · rw [hk] at KC
    have hsm := (nck_small hk).1
    have HLB : Hid (∀ s ∈ ss, 1 ≤ s.size) := fun s hs => (chk_ok ((nck_small hk).2 s hs)).1
    by_cases h0 : n = 0
    · have hp : ntext ss = (⟨#[46]⟩, 0) := by unfold ntext; rw [if_pos hk, if_pos (by rw [h.len]; exact h0)]
      rw [hp]
      subst h0
      clear h hk hp
      go_enter Try.func36, Try.ntmps36
      go_wp2_with fail
      refine KC.out.mono ?_
      rintro e w1 ⟨rfl, rfl⟩
      go_wp2
      go_ret2
      exact ⟨rfl, Below.refl _ _⟩
    · have hp : ntext ss = (ntxt ss, 0) := by unfold ntext; rw [if_pos hk, if_neg (by rw [h.len]; exact h0)]
      rw [hp]
      have h0' : ((n : Int) == 0) = false := by simp; omega
      have HSZ : Hid (∀ k, k ≤ ss.length → (ntxt (ss.take k)).size ≤ 1020) := fun k hk => by have := ntxt_size ss k hk; omega
      obtain ⟨R, hR⟩ : ∃ R, ntxt ss = R := ⟨_, rfl⟩
      have HRR : Hid (ntxt ss = R) := hR
      rw [hR]
      clear h hk hp hR
      have H0 : Hid (GS w.heap.size (w.alloc (.cells #[.pointer none, .slice none 0 0] 82)) w.heap.size [] ∧ Below w.heap.size w (w.alloc (.cells #[.pointer none, .slice none 0 0] 82))) := ⟨GS.fresh w, (Below.refl _ _).alloc (Nat.le_refl _) _⟩
      go_enter Try.func36, Try.ntmps36
      go_wp2_with fail
      refine KC.out.mono ?_
      rintro e w1 ⟨rfl, rfl⟩
      go_wp2_with fail
      go_loopw [18] (fun x wr => ∃ (k : Nat) (t : ByteArray), k ≤ n ∧ x = .int .i64 k ∧ t.size ≤ 1020 ∧ Hid (ntxt (ss.take k) = t) ∧ Hid (GS w1.heap.size wr w1.heap.size (Lib.byteCells t.data.toList) ∧ Below w1.heap.size w1 wr)) (fun x _ => n - (intOf x).toNat)
      case atStart => exact ⟨0, ⟨#[]⟩, Nat.zero_le _, rfl, by decide, rfl, H0⟩
      case round =>
        clear H0
        obtain ⟨k, t, hkn, rfl, htz, HT, HB⟩ := hrel
        by_cases hlt : k < n
        · have hlt' : (k : Int) < (n : Int) := by omega
          have hks : k < ss.length := by rw [HL.out]; exact hlt
          obtain ⟨b, o, rfl, hb, hc⟩ := (HN.out.below HB.out.2).rd.at k hks
          have hsz := Nat.le_trans (nsz_mem ss _ (List.getElem_mem hks)) hsm
          have HT2 : Hid (ntxt (ss.take (k + 1)) = t ++ tb ss[k] ++ ⟨#[46]⟩) := by show _ = _; rw [take_snocT ss k hks, ntxt_snoc, HT.out]
          have hz2 := HSZ.out (k + 1) (by omega)
          rw [HT2.out] at hz2
          have KT : Hid (∀ W, Calls Try.prog 69 #[.string ss[k]] W fun e w' => e = .returned (.string (tb ss[k])) ∧ Hid (Below W.heap.size W w')) := fun W => text_any ss[k] W (by omega)
          have htb : (tb ss[k]).size ≤ 1020 := by have := tb_size ss[k]; omega
          have htp : 0 < (tb ss[k]).size := tb_pos _ (HLB.out _ (List.getElem_mem hks))
          generalize tb ss[k] = f at *
          generalize ss[k] = s at *
          have KW1 : Hid (∀ W, GS w1.heap.size W w1.heap.size (Lib.byteCells t.data.toList) → Calls Try.prog 68 #[.pointer (some ⟨w1.heap.size, 0, none⟩), .string f] W fun e w' => e = .returned (.tuple #[.int .i64 f.size, .nilIface]) ∧ Hid (GS w1.heap.size w' w1.heap.size (Lib.byteCells (t ++ f).data.toList) ∧ Below w1.heap.size W w')) := fun W hW => by
            have := wstr w1.heap.size w1.heap.size _ f W hW (Nat.le_refl _) htp (by rw [Lib.byteCells_length]; have : t.data.toList.length = t.size := rfl; omega)
            rw [← cells_append] at this
            exact this
          have KW2 : Hid (∀ W, GS w1.heap.size W w1.heap.size (Lib.byteCells (t ++ f).data.toList) → Calls Try.prog 68 #[.pointer (some ⟨w1.heap.size, 0, none⟩), .string ⟨#[46]⟩] W fun e w' => e = .returned (.tuple #[.int .i64 1, .nilIface]) ∧ Hid (GS w1.heap.size w' w1.heap.size (Lib.byteCells (t ++ f ++ ⟨#[46]⟩).data.toList) ∧ Below w1.heap.size W w')) := fun W hW => by
            have := wstr w1.heap.size w1.heap.size _ ⟨#[46]⟩ W hW (Nat.le_refl _) (by decide) (by rw [Lib.byteCells_length]; have : (t ++ f).data.toList.length = (t ++ f).size := rfl; rw [this, ByteArray.size_append]; show _ + 1 ≤ _; omega)
            rw [← cells_append] at this
            exact this
          go_wp2_with fail
          refine (KT.out _).mono ?_
          rintro e w2 ⟨rfl, H2⟩
          have HG2 : Hid (GS w1.heap.size w2 w1.heap.size (Lib.byteCells t.data.toList) ∧ Below w1.heap.size w1 w2) := by
            refine ⟨?_, HB.out.2.trans (H2.out.mono HB.out.2.size)⟩
            rcases HB.out.1 with ⟨g1, g2⟩ | ⟨⟨v, g1, g2, g3⟩, g4⟩
            · exact .inl ⟨g1.same (H2.out.block _ g1.lt), g2⟩
            · exact .inr ⟨⟨v, g1.same (H2.out.block _ g1.lt), g2.kept (row := none) ⟨H2.out.os, H2.out.tape, H2.out.output, H2.out.size, fun k hk _ => H2.out.block k hk⟩ (by rcases hv : v.ownBlock with _ | g; exact .inl rfl; exact .inr (by simp)), g3⟩, g4⟩
          clear hc KT HB H2
          go_wp2_with fail
          refine (KW1.out _ HG2.out.1).mono ?_
          rintro e w3 ⟨rfl, H3⟩
          go_wp2_with fail
          refine (KW2.out _ H3.out.1).mono ?_
          rintro e w4 ⟨rfl, H4⟩
          go_wp2
          refine ⟨⟨k + 1, _, by omega, by go_num, hz2, HT2, H4.out.1, (HG2.out.2.trans H3.out.2).trans H4.out.2⟩, by simp [intOf]; omega⟩
        · have hge : (n : Int) ≤ (k : Int) := by omega
          have e : t = R := by rw [← HT.out, ← HRR.out, List.take_of_length_le (by rw [HL.out]; omega)]
          subst e
          go_wp2_with fail
          refine (wstring w1.heap.size w1.heap.size t.data.toList _ HB.out.1 (by have : t.data.toList.length = t.size := rfl; omega)).mono ?_
          rintro e w2 ⟨rfl, H2⟩
          go_wp2
          go_ret2
          exact ⟨rfl, HB.out.2.trans H2.out⟩
  · have hp : ntext ss = (⟨#[]⟩, nck ss) := by unfold ntext; rw [if_neg hk]
    rw [hp]
    generalize nck ss = q at *
    have hq : (q != 0) = true := bne_iff_ne.2 hk
    clear h hk hp
    go_enter Try.func36, Try.ntmps36
    go_wp2_with fail
    refine KC.out.mono ?_
    rintro e w1 ⟨rfl, rfl⟩
    go_wp2
    go_ret2
    exact ⟨rfl, Below.refl _ _⟩
end Go.Proofs.Ytkbpjaojgkpffaa
