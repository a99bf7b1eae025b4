/- The chapter's examples, one by one; the statement that holds them. -/
import Derived.Test.YtjfpkpblifbljaaDoorAw
namespace Go.Proofs.YtjfpkpblifbljaaDoor
open Go.ChangeShapes Go.WideShapes Go.ChangeAt Go.RowKit
set_option linter.unusedVariables false
set_option linter.unusedSimpArgs false

/-- What the listed variables hold. -/
def Lay (w : World) : Prop := LayT w ∧ LayE w
theorem Lay.below {w w' : World} (h : Lay w) (hb : Below w.heap.size w w') : Lay w' := ⟨h.1.below hb, h.2.below hb⟩
theorem readF_pre (ps : Own4) (pre : List UInt8) (below : Nat) (l : List UInt8) (h : ps.find? (fun p => p.1 == pre ++ l) = none) : readF ps pre below (pre ++ l) = numF l below := by
  unfold readF digF
  rw [h]
  simp
theorem readF_none (ps : Own4) (pre : List UInt8) (below : Nat) (s : List UInt8) (h : ps.find? (fun p => p.1 == s) = none) (hp : pre.isPrefixOf s = false) : readF ps pre below s = none := by
  unfold readF digF
  rw [h]
  simp [hp]
theorem k_t99 (w : World) (hL : Lay w) : Calls Tryd.prog 19 #[.int .u16 99] w fun e w' => e = .returned (.string ⟨#[84, 89, 80, 69, 57, 57]⟩) ∧ Hid (Below w.heap.size w w') := by
  have h := type_any 99 (by decide) w hL.1
  have e : tellF typesW typesP.data.toList 99 = [84, 89, 80, 69, 57, 57] := by
    first
    | exact tellF_own _ _ _ ([84, 89, 80, 69, 57, 57], 99) (by decide +kernel)
    | (rw [tellF_pre _ _ _ (by decide +kernel)]; simp [typesP, dec_small, dec_big])
  rw [e] at h
  exact h
theorem k_t0 (w : World) (hL : Lay w) : Calls Tryd.prog 19 #[.int .u16 0] w fun e w' => e = .returned (.string ⟨#[84, 89, 80, 69, 48]⟩) ∧ Hid (Below w.heap.size w w') := by
  have h := type_any 0 (by decide) w hL.1
  have e : tellF typesW typesP.data.toList 0 = [84, 89, 80, 69, 48] := by
    first
    | exact tellF_own _ _ _ ([84, 89, 80, 69, 48], 0) (by decide +kernel)
    | (rw [tellF_pre _ _ _ (by decide +kernel)]; simp [typesP, dec_small, dec_big])
  rw [e] at h
  exact h
theorem k_c1 (w : World) (hL : Lay w) : Calls Tryd.prog 20 #[.int .u16 1] w fun e w' => e = .returned (.string ⟨#[73, 78]⟩) ∧ Hid (Below w.heap.size w w') := by
  have h := class_any 1 (by decide) w hL.1
  have e : tellF classesW classesP.data.toList 1 = [73, 78] := by
    first
    | exact tellF_own _ _ _ ([73, 78], 1) (by decide +kernel)
    | (rw [tellF_pre _ _ _ (by decide +kernel)]; simp [classesP, dec_small, dec_big])
  rw [e] at h
  exact h
theorem k_c2 (w : World) (hL : Lay w) : Calls Tryd.prog 20 #[.int .u16 2] w fun e w' => e = .returned (.string ⟨#[67, 76, 65, 83, 83, 50]⟩) ∧ Hid (Below w.heap.size w w') := by
  have h := class_any 2 (by decide) w hL.1
  have e : tellF classesW classesP.data.toList 2 = [67, 76, 65, 83, 83, 50] := by
    first
    | exact tellF_own _ _ _ ([67, 76, 65, 83, 83, 50], 2) (by decide +kernel)
    | (rw [tellF_pre _ _ _ (by decide +kernel)]; simp [classesP, dec_small, dec_big])
  rw [e] at h
  exact h
theorem k_r11 (w : World) (hL : Lay w) : Calls Tryd.prog 16 #[.int .i64 11] w fun e w' => e = .returned (.tuple #[.string ⟨#[82, 67, 79, 68, 69, 49, 49]⟩, .int .i64 0]) ∧ Hid (Below w.heap.size w w') := by
  refine (rcode_any 11 w hL.1).mono ?_
  rintro e W ⟨l, y, rfl, HT, H⟩
  obtain ⟨rfl, rfl⟩ := HT.out.1 (by decide) (by decide)
  have e : tellF rcodesW rcodesP.data.toList (Int.toNat 11) = [82, 67, 79, 68, 69, 49, 49] := by
    show tellF rcodesW rcodesP.data.toList 11 = _
    first
    | exact tellF_own _ _ _ ([82, 67, 79, 68, 69, 49, 49], 11) (by decide +kernel)
    | (rw [tellF_pre _ _ _ (by decide +kernel)]; simp [rcodesP, dec_small, dec_big])
  rw [e]
  exact ⟨rfl, H⟩
theorem k_o5 (w : World) (hL : Lay w) : Calls Tryd.prog 17 #[.int .i64 5] w fun e w' => e = .returned (.tuple #[.string ⟨#[85, 80, 68, 65, 84, 69]⟩, .int .i64 0]) ∧ Hid (Below w.heap.size w w') := by
  refine (opcode_any 5 w hL.1).mono ?_
  rintro e W ⟨l, y, rfl, HT, H⟩
  obtain ⟨rfl, rfl⟩ := HT.out.1 (by decide) (by decide)
  have e : tellF opcodesW opcodesP.data.toList (Int.toNat 5) = [85, 80, 68, 65, 84, 69] := by
    show tellF opcodesW opcodesP.data.toList 5 = _
    first
    | exact tellF_own _ _ _ ([85, 80, 68, 65, 84, 69], 5) (by decide +kernel)
    | (rw [tellF_pre _ _ _ (by decide +kernel)]; simp [opcodesP, dec_small, dec_big])
  rw [e]
  exact ⟨rfl, H⟩
theorem k_o3 (w : World) (hL : Lay w) : Calls Tryd.prog 17 #[.int .i64 3] w fun e w' => e = .returned (.tuple #[.string ⟨#[79, 80, 67, 79, 68, 69, 51]⟩, .int .i64 0]) ∧ Hid (Below w.heap.size w w') := by
  refine (opcode_any 3 w hL.1).mono ?_
  rintro e W ⟨l, y, rfl, HT, H⟩
  obtain ⟨rfl, rfl⟩ := HT.out.1 (by decide) (by decide)
  have e : tellF opcodesW opcodesP.data.toList (Int.toNat 3) = [79, 80, 67, 79, 68, 69, 51] := by
    show tellF opcodesW opcodesP.data.toList 3 = _
    first
    | exact tellF_own _ _ _ ([79, 80, 67, 79, 68, 69, 51], 3) (by decide +kernel)
    | (rw [tellF_pre _ _ _ (by decide +kernel)]; simp [opcodesP, dec_small, dec_big])
  rw [e]
  exact ⟨rfl, H⟩
theorem k_r4096 (w : World) (hL : Lay w) : Calls Tryd.prog 16 #[.int .i64 4096] w fun e w' => e = .returned (.tuple #[.string ⟨#[]⟩, .int .i64 2]) ∧ Hid (Below w.heap.size w w') := by
  refine (rcode_any 4096 w hL.1).mono ?_
  rintro e W ⟨l, y, rfl, HT, H⟩
  obtain ⟨rfl, rfl⟩ := HT.out.2 (.inr (by decide))
  exact ⟨rfl, H⟩
theorem k_o16 (w : World) (hL : Lay w) : Calls Tryd.prog 17 #[.int .i64 16] w fun e w' => e = .returned (.tuple #[.string ⟨#[]⟩, .int .i64 2]) ∧ Hid (Below w.heap.size w w') := by
  refine (opcode_any 16 w hL.1).mono ?_
  rintro e W ⟨l, y, rfl, HT, H⟩
  obtain ⟨rfl, rfl⟩ := HT.out.2 (.inr (by decide))
  exact ⟨rfl, H⟩
theorem k_p1 (w : World) (hL : Lay w) : Calls Tryd.prog 8 #[.string ⟨#[84, 89, 80, 69, 49]⟩] w fun e w' => e = .returned (.tuple #[.int .u16 1, .int .i64 0]) ∧ Hid (Below w.heap.size w w') := by
  refine (ptype_any ⟨#[84, 89, 80, 69, 49]⟩ (by decide +kernel) w hL.1 hL.2).mono ?_
  rintro e W ⟨x, y, rfl, HR, H⟩
  have e : readF typesW typesP.data.toList 65536 (up ⟨#[84, 89, 80, 69, 49]⟩).data.toList = some 1 := by
    rw [up_lit _ ([84, 89, 80, 69] ++ [49]) (by decide +kernel)]
    have h := readF_pre typesW typesP.data.toList 65536 [49] (by decide +kernel)
    refine h.trans ?_
    have hd : ([49] : List UInt8) = Lib.decDigits 1 := by simp [dec_small, dec_big]
    rw [hd]
    exact numF_dec _ _ (by decide)
  obtain ⟨rfl, rfl⟩ := HR.out.1 1 e
  exact ⟨rfl, H⟩
theorem k_p65535 (w : World) (hL : Lay w) : Calls Tryd.prog 8 #[.string ⟨#[84, 121, 112, 101, 54, 53, 53, 51, 53]⟩] w fun e w' => e = .returned (.tuple #[.int .u16 65535, .int .i64 0]) ∧ Hid (Below w.heap.size w w') := by
  refine (ptype_any ⟨#[84, 121, 112, 101, 54, 53, 53, 51, 53]⟩ (by decide +kernel) w hL.1 hL.2).mono ?_
  rintro e W ⟨x, y, rfl, HR, H⟩
  have e : readF typesW typesP.data.toList 65536 (up ⟨#[84, 121, 112, 101, 54, 53, 53, 51, 53]⟩).data.toList = some 65535 := by
    rw [up_lit _ ([84, 89, 80, 69] ++ [54, 53, 53, 51, 53]) (by decide +kernel)]
    have h := readF_pre typesW typesP.data.toList 65536 [54, 53, 53, 51, 53] (by decide +kernel)
    refine h.trans ?_
    have hd : ([54, 53, 53, 51, 53] : List UInt8) = Lib.decDigits 65535 := by simp [dec_small, dec_big]
    rw [hd]
    exact numF_dec _ _ (by decide)
  obtain ⟨rfl, rfl⟩ := HR.out.1 65535 e
  exact ⟨rfl, H⟩
theorem k_q255 (w : World) (hL : Lay w) : Calls Tryd.prog 9 #[.string ⟨#[99, 108, 97, 115, 115, 50, 53, 53]⟩] w fun e w' => e = .returned (.tuple #[.int .u16 255, .int .i64 0]) ∧ Hid (Below w.heap.size w w') := by
  refine (pclass_any ⟨#[99, 108, 97, 115, 115, 50, 53, 53]⟩ (by decide +kernel) w hL.1 hL.2).mono ?_
  rintro e W ⟨x, y, rfl, HR, H⟩
  have e : readF classesW classesP.data.toList 65536 (up ⟨#[99, 108, 97, 115, 115, 50, 53, 53]⟩).data.toList = some 255 := by
    rw [up_lit _ ([67, 76, 65, 83, 83] ++ [50, 53, 53]) (by decide +kernel)]
    have h := readF_pre classesW classesP.data.toList 65536 [50, 53, 53] (by decide +kernel)
    refine h.trans ?_
    have hd : ([50, 53, 53] : List UInt8) = Lib.decDigits 255 := by simp [dec_small, dec_big]
    rw [hd]
    exact numF_dec _ _ (by decide)
  obtain ⟨rfl, rfl⟩ := HR.out.1 255 e
  exact ⟨rfl, H⟩
def bads : List ByteArray := [⟨#[84, 89, 80, 69, 48, 49]⟩, ⟨#[84, 89, 80, 69, 54, 53, 53, 51, 54]⟩, ⟨#[84, 89, 80, 69]⟩, ⟨#[73, 78]⟩, ⟨#[]⟩]
theorem bad_numF (l : List UInt8) (h : ¬ (l = Lib.decDigits (dv l) ∧ dv l < 65536)) : numF l 65536 = none := by
  unfold numF; rw [if_neg h]
theorem bads_no : ∀ b ∈ bads, b.size ≤ 100 ∧ readF typesW typesP.data.toList 65536 (up b).data.toList = none := by
  intro b hb
  simp only [bads, List.mem_cons, List.not_mem_nil, or_false] at hb
  rcases hb with rfl | rfl | rfl | rfl | rfl
  · refine ⟨by decide +kernel, ?_⟩
    rw [up_lit _ ([84, 89, 80, 69] ++ [48, 49]) (by decide +kernel)]
    refine (readF_pre typesW typesP.data.toList 65536 [48, 49] (by decide +kernel)).trans (bad_numF _ ?_)
    rw [show dv [48, 49] = 1 by decide +kernel]
    simp [dec_small]
  · refine ⟨by decide +kernel, ?_⟩
    rw [up_lit _ ([84, 89, 80, 69] ++ [54, 53, 53, 51, 54]) (by decide +kernel)]
    refine (readF_pre typesW typesP.data.toList 65536 [54, 53, 53, 51, 54] (by decide +kernel)).trans (bad_numF _ ?_)
    rw [show dv [54, 53, 53, 51, 54] = 65536 by decide +kernel]
    omega
  · refine ⟨by decide +kernel, ?_⟩
    rw [up_lit _ ([84, 89, 80, 69] ++ []) (by decide +kernel)]
    refine (readF_pre typesW typesP.data.toList 65536 [] (by decide +kernel)).trans (bad_numF _ ?_)
    rintro ⟨h, _⟩
    exact dec_ne _ h.symm
  · refine ⟨by decide +kernel, ?_⟩
    rw [up_lit _ [73, 78] (by decide +kernel)]
    exact readF_none _ _ _ _ (by decide +kernel) (by decide +kernel)
  · refine ⟨by decide +kernel, ?_⟩
    rw [up_lit _ [] (by decide +kernel)]
    exact readF_none _ _ _ _ (by decide +kernel) (by decide +kernel)
theorem bad_any (b : ByteArray) (hb : b ∈ bads) (w : World) (hL : Lay w) : Calls Tryd.prog 8 #[.string b] w fun e w' => e = .returned (.tuple #[.int .u16 0, .int .i64 6]) ∧ Hid (Below w.heap.size w w') := by
  obtain ⟨h1, h2⟩ := bads_no b hb
  refine (ptype_any b (by omega) w hL.1 hL.2).mono ?_
  rintro e W ⟨x, y, rfl, HR, H⟩
  obtain ⟨rfl, rfl⟩ := HR.out.2 h2
  exact ⟨rfl, H⟩
end Go.Proofs.YtjfpkpblifbljaaDoor
