/- T: words of texts. -/
import Derived.Test.YtgdkeafjglcgaaaDoorSz
import Derived.Deep.CutBlock
namespace Go.Proofs.YtgdkeafjglcgaaaDoor
open Go.ChangeShapes Go.WideShapes Go.ChangeAt Go.RowKit
set_option linter.unusedVariables false
set_option linter.unusedSimpArgs false


def RdS (w : World) (a : Option Addr) (ss : List ByteArray) : Prop :=
  ss = [] ∨ ∃ b o, a = some ⟨b, o, none⟩ ∧ b < w.heap.size ∧ ∀ i (h : i < ss.length), w.cell? ⟨b, o + i, none⟩ = some (.string ss[i])
theorem RdS.at {w : World} {a : Option Addr} {ss : List ByteArray} (h : RdS w a ss) (i : Nat) (hi : i < ss.length) : ∃ b o, a = some ⟨b, o, none⟩ ∧ b < w.heap.size ∧ w.cell? ⟨b, o + i, none⟩ = some (.string ss[i]) := by
  rcases h with h | ⟨b, o, h1, h2, h3⟩
  · subst h; simp at hi
  · exact ⟨b, o, h1, h2, h3 i hi⟩
/-- A text as a word. -/
def tW (s : ByteArray) : Wd := if h : 2 ≤ s.size then (if s[0] = 34 then (s.extract 1 (s.size - 1), true) else (s, false)) else (s, false)
set_option maxRecDepth 100000 in
set_option maxHeartbeats 4000000 in
theorem t15 (a : Option Addr) (n c : Nat) (ss : List ByteArray) (w : World) (h : RdS w a ss) (hl : ss.length = n) (hc : n ≤ c) (hn : n ≤ 1000) (hc2 : c ≤ 1000) (hs : ∀ s ∈ ss, s.size ≤ 1000000) :
    Calls Tryd.prog 13 #[.slice a n c] w fun e w' => ∃ ao cc, e = .returned (.slice ao n cc) ∧ Hid (w'.ownsRow w.heap.size 44 2 (.slice ao n cc) n (cellsW (ss.map tW)) ∧ Below w.heap.size w w') := by
  have HR : Hid (RdS w a ss) := h
  have HS : Hid (∀ s ∈ ss, s.size ≤ 1000000) := hs
  clear h hs
  obtain ⟨i27, hi, hz0, hz1, hz2⟩ := inf27
  have HI : Hid (Tryd.prog.info? 44 = some i27 ∧ i27.zero = some (.agg #[.string ⟨#[]⟩, .bool false]) ∧ i27.size = 2 ∧ i27.bytes = 24) := ⟨hi, hz0, hz1, hz2⟩
  clear hi hz0 hz1 hz2
  go_enter Tryd.func13, Tryd.ntmps13
  go_wp2_with fail
  go_loopw [3, 4] (fun u y wr => ∃ k ao cc : Nat, ∃ ad : Option Addr, k ≤ n ∧ y = .int .i64 (k : Int) ∧ u = .slice ad k cc ∧ Hid (wr.ownsRow w.heap.size 44 2 (.slice ad k cc) k (cellsW ((ss.take k).map tW)) ∧ Below w.heap.size w wr)) (fun _ y _ => n - (intOf y).toNat)
  case atStart => exact ⟨0, 0, 0, none, Nat.zero_le _, rfl, rfl, World.ownsRow_nil _ _ _ _, Below.refl _ _⟩
  case round =>
    obtain ⟨k, _, cc, ad, hk, rfl, rfl, HV⟩ := hrel
    by_cases hlt : k < n
    · have hlt' : (k : Int) < (n : Int) := by omega
      have hkl : k < ss.length := by omega
      obtain ⟨b, o, rfl, hbb, c0⟩ := HR.out.at k hkl
      have d0 : wr.cell? ⟨b, o + k, none⟩ = some (.string ss[k]) := (HV.out.2.cell (p := ⟨b, o + k, none⟩) hbb).trans c0
      have hbw := Nat.lt_of_lt_of_le hbb HV.out.2.size
      have hwr := HV.out.2.size
      have hsz := HS.out ss[k] (List.getElem_mem hkl)
      have HT : Hid (cellsW ((ss.take k).map tW) ++ cellsW [tW ss[k]] = cellsW ((ss.take (k + 1)).map tW)) := (by show _ = _; rw [List.take_succ_eq_append_getElem hkl, List.map_append, cellsW_app]; rfl)
      clear c0
      generalize ss[k] = s at *
      by_cases h2 : 2 ≤ s.size
      · have h2' : (2 : Int) ≤ (s.size : Int) := by omega
        have h0 : 0 < s.size := by omega
        have h0' : (0 : Int) < (s.size : Int) := by omega
        by_cases h34 : s[0] = 34
        · have hTW : tW s = (s.extract 1 (s.size - 1), true) := by unfold tW; rw [dif_pos h2, if_pos h34]
          rw [hTW] at HT
          have e34 : ((s[0].toNat : Nat) : Int) = 34 := by rw [h34]; rfl
          have HO := Lib.hid (HV.out.1.alloc (.cells #[.string (s.extract 1 (s.size - 1)), .bool true] 44))
          have HC := Lib.hid (one_termw wr (s.extract 1 (s.size - 1)) true)
          have hss : wr.heap.size ≤ (wr.alloc (.cells #[.string (s.extract 1 (s.size - 1)), .bool true] 44)).heap.size := (alp_below _ _).size
          clear hTW
          go_wp2_with (at_builtin; refine wpList_append_own _ rfl _ _ 32 rfl w.heap.size 44 i27 _ 2 24 Tryd.underlying32 HI.out.1 HI.out.2.1 HI.out.2.2.1 HI.out.2.2.2 rfl (by decide) (.slice ad k cc) k _ rfl HO.out ⟨wr.heap.size, 0, none⟩ 1 1 (cellsW [(s.extract 1 (s.size - 1), true)]) rfl (by rfl) HC.out (cellsW_one _) (by simp only [maxLen]; omega) (by omega) (by omega) ?_; intro v6 w6 h61 h62 h63; obtain ⟨ao6, cc6, rfl⟩ := row_shape h61; have HF : Hid (w6.ownsRow w.heap.size 44 2 (.slice ao6 (k + 1) cc6) (k + 1) (cellsW ((ss.take (k + 1)).map tW)) ∧ Below w.heap.size w w6) := ⟨(by rw [← HT.out]; exact h61), (HV.out.2.trans ((alp_below _ _).mono hwr)).grown h62 (by omega) (fun g hg => (HV.out.1.lt g hg).1)⟩; clear h61 h62 h63)
          go_round
          case rel => exact ⟨k + 1, 0, cc6, ao6, by omega, by go_num, rfl, HF⟩
          case measure => simp [intOf]; omega
        · have hTW : tW s = (s, false) := by unfold tW; rw [dif_pos h2, if_neg h34]
          rw [hTW] at HT
          have e34 : ¬ ((s[0].toNat : Nat) : Int) = 34 := fun e => h34 (by rw [← UInt8.toNat_inj]; show s[0].toNat = 34; omega)
          have e35 : (((s[0].toNat : Nat) : Int) == 34) = false := by simpa using e34
          have HO := Lib.hid (HV.out.1.alloc (.cells #[.string s, .bool false] 44))
          have HC := Lib.hid (one_termw wr s false)
          have hss : wr.heap.size ≤ (wr.alloc (.cells #[.string s, .bool false] 44)).heap.size := (alp_below _ _).size
          clear hTW
          go_wp2_with (at_builtin; refine wpList_append_own _ rfl _ _ 32 rfl w.heap.size 44 i27 _ 2 24 Tryd.underlying32 HI.out.1 HI.out.2.1 HI.out.2.2.1 HI.out.2.2.2 rfl (by decide) (.slice ad k cc) k _ rfl HO.out ⟨wr.heap.size, 0, none⟩ 1 1 (cellsW [(s, false)]) rfl (by rfl) HC.out (cellsW_one _) (by simp only [maxLen]; omega) (by omega) (by omega) ?_; intro v6 w6 h61 h62 h63; obtain ⟨ao6, cc6, rfl⟩ := row_shape h61; have HF : Hid (w6.ownsRow w.heap.size 44 2 (.slice ao6 (k + 1) cc6) (k + 1) (cellsW ((ss.take (k + 1)).map tW)) ∧ Below w.heap.size w w6) := ⟨(by rw [← HT.out]; exact h61), (HV.out.2.trans ((alp_below _ _).mono hwr)).grown h62 (by omega) (fun g hg => (HV.out.1.lt g hg).1)⟩; clear h61 h62 h63)
          go_round
          case rel => exact ⟨k + 1, 0, cc6, ao6, by omega, by go_num, rfl, HF⟩
          case measure => simp [intOf]; omega
      · have h2' : ¬ (2 : Int) ≤ (s.size : Int) := by omega
        have hTW : tW s = (s, false) := by unfold tW; rw [dif_neg h2]
        rw [hTW] at HT
        have HO := Lib.hid (HV.out.1.alloc (.cells #[.string s, .bool false] 44))
        have HC := Lib.hid (one_termw wr s false)
        have hss : wr.heap.size ≤ (wr.alloc (.cells #[.string s, .bool false] 44)).heap.size := (alp_below _ _).size
        clear hTW
        go_wp2_with (at_builtin; refine wpList_append_own _ rfl _ _ 32 rfl w.heap.size 44 i27 _ 2 24 Tryd.underlying32 HI.out.1 HI.out.2.1 HI.out.2.2.1 HI.out.2.2.2 rfl (by decide) (.slice ad k cc) k _ rfl HO.out ⟨wr.heap.size, 0, none⟩ 1 1 (cellsW [(s, false)]) rfl (by rfl) HC.out (cellsW_one _) (by simp only [maxLen]; omega) (by omega) (by omega) ?_; intro v6 w6 h61 h62 h63; obtain ⟨ao6, cc6, rfl⟩ := row_shape h61; have HF : Hid (w6.ownsRow w.heap.size 44 2 (.slice ao6 (k + 1) cc6) (k + 1) (cellsW ((ss.take (k + 1)).map tW)) ∧ Below w.heap.size w w6) := ⟨(by rw [← HT.out]; exact h61), (HV.out.2.trans ((alp_below _ _).mono hwr)).grown h62 (by omega) (fun g hg => (HV.out.1.lt g hg).1)⟩; clear h61 h62 h63)
        go_round
        case rel => exact ⟨k + 1, 0, cc6, ao6, by omega, by go_num, rfl, HF⟩
        case measure => simp [intOf]; omega
    · have hge : ¬ (k : Int) < (n : Int) := by omega
      obtain rfl : k = n := by omega
      have HE : Hid (wr.ownsRow w.heap.size 44 2 (.slice ad k cc) k (cellsW (ss.map tW))) := (by show World.ownsRow _ _ _ _ _ _ _; have := HV.out.1; rw [List.take_of_length_le (by omega)] at this; exact this)
      go_wp2_with fail
      go_ret
      exact ⟨_, _, rfl, HE.out, HV.out.2⟩
end Go.Proofs.YtgdkeafjglcgaaaDoor
