/- The word of a number, as the program tells it. -/
import Derived.Test.YtjfpkpblifbljaaDoorLy
namespace Go.Proofs.YtjfpkpblifbljaaDoor
open Go.ChangeShapes Go.WideShapes Go.ChangeAt Go.RowKit
set_option linter.unusedVariables false
set_option linter.unusedSimpArgs false

/-- A kind in a block of its own. -/
def Box (w : World) (b : Nat) (s pre : ByteArray) (most : Int) : Prop :=
  w.cell? ⟨b, 0, none⟩ = some (.string s) ∧ w.cell? ⟨b, 1, none⟩ = some (.string pre) ∧ w.cell? ⟨b, 2, none⟩ = some (.int .i64 most) ∧ b < w.heap.size
theorem Box.new (w : World) (s pre : ByteArray) (most : Int) : Box (w.alloc (.cells #[.string s, .string pre, .int .i64 most] 51)) w.heap.size s pre most := by
  refine ⟨?_, ?_, ?_, by simp⟩ <;> (unfold World.cell?; rw [heap_alloc_new]; rfl)
theorem Box.below {w w' : World} {b : Nat} {s pre : ByteArray} {most : Int} (h : Box w b s pre most) (hb : Below w.heap.size w w') : Box w' b s pre most :=
  ⟨(hb.cell (p := ⟨b, 0, none⟩) h.2.2.2).trans h.1, (hb.cell (p := ⟨b, 1, none⟩) h.2.2.2).trans h.2.1, (hb.cell (p := ⟨b, 2, none⟩) h.2.2.2).trans h.2.2.1, Nat.lt_of_lt_of_le h.2.2.2 hb.size⟩

theorem cat_txt (a : ByteArray) (l : List UInt8) : a ++ (⟨l.toArray⟩ : ByteArray) = ⟨(a.data.toList ++ l).toArray⟩ := by
  apply ByteArray.ext
  simp
set_option maxRecDepth 100000 in
set_option maxHeartbeats 1000000 in
theorem word_any (s pre : ByteArray) (most : Int) (ps : Own4) (n : Nat) (hn : n < 65536) (hpre : pre.size ≤ 100) (w : World) (hK : KOk s ps) (hL : LayT w) :
    Calls Tryd.prog 37 #[.agg #[.string s, .string pre, .int .i64 most], .int .i64 n] w fun e w' => e = .returned (.string ⟨(tellF ps pre.data.toList n).toArray⟩) ∧ Hid (Below w.heap.size w w') := by
  have HL : Hid (LayT w) := hL
  have HK : Hid (KOk s ps) := hK
  have HX : Hid (Box (w.alloc (.cells #[.string s, .string pre, .int .i64 most] 51)) w.heap.size s pre most) := Box.new w s pre most
  have HB : Hid (Below w.heap.size w (w.alloc (.cells #[.string s, .string pre, .int .i64 most] 51))) := (Below.refl _ _).alloc (Nat.le_refl _) _
  clear hL hK
  go_enter Tryd.func37, Tryd.ntmps37
  go_wp2_with fail
  generalize (w.alloc (.cells #[.string s, .string pre, .int .i64 most] 51)) = W1 at *
  refine (itoa_nat n (by omega) W1 (HL.out.below HB.out)).mono ?_
  rintro e W2 ⟨rfl, H2⟩
  have HX2 : Hid (Box W2 w.heap.size s pre most) := HX.out.below H2.out
  have HB2 : Hid (Below w.heap.size w W2) := HB.out.trans (H2.out.mono HB.out.size)
  have c0 := HX2.out.1
  clear HX HB H2
  go_wp2_with fail
  refine (fields_any s ps W2 HK.out (HL.out.below HB2.out)).mono ?_
  rintro e W3 ⟨rfl, H3⟩
  have HX3 : Hid (Box W3 w.heap.size s pre most) := HX2.out.below H3.out.1
  have HB3 : Hid (Below w.heap.size w W3) := HB2.out.trans (H3.out.1.mono HB2.out.size)
  have HC : Hid (∀ j p, ps[j]? = some p → W3.cell? ⟨W2.heap.size, 2 * j, none⟩ = some (.string ⟨p.1.toArray⟩) ∧ W3.cell? ⟨W2.heap.size, 2 * j + 1, none⟩ = some (.string ⟨(Lib.decDigits p.2).toArray⟩)) := H3.out.2
  have hN := HK.out.2.2.2.1
  obtain ⟨N, eN⟩ : ∃ N, ps.length = N := ⟨_, rfl⟩
  have HN : Hid (ps.length = N) := eN
  rw [eN] at hN ⊢
  clear c0 HX2 HB2 H3 eN HK
  generalize W2.heap.size = g at *
  go_wp2_with fail
  go_loopw [7] (fun x wr => wr = W3 ∧ ∃ j : Nat, j ≤ N ∧ x = .int .i64 ((2 * j + 1 : Nat) : Int) ∧ Hid (∀ p ∈ ps.take j, (p.2 == n) = false)) (fun x _ => 2 * N + 1 - (intOf x).toNat)
  case atStart => exact ⟨rfl, 0, Nat.zero_le _, rfl, by intro p hp; simp at hp⟩
  case round =>
    obtain ⟨rfl, j, hj, rfl, HF⟩ := hrel
    obtain ⟨i, ei⟩ : ∃ i : Nat, 2 * j + 1 = i := ⟨_, rfl⟩
    by_cases hlt : j < N
    · obtain ⟨p, hp⟩ : ∃ p, ps[j]? = some p := ⟨_, List.getElem?_eq_getElem (by rw [HN.out]; exact hlt)⟩
      obtain ⟨c1, c2⟩ := HC.out j p hp
      rw [ei] at c2 ⊢
      have hb1 : (i : Int) < ((2 * N : Nat) : Int) := by omega
      have hs1 : IntKind.i64.wrap ((i : Int) - 1) = ((2 * j : Nat) : Int) := by rw [IntKind.wrap_i64]; omega
      have hs2 : (((2 * j : Nat) : Int)) < ((2 * N : Nat) : Int) := by omega
      have HS : Hid (((p.2 == n) = true → ps.find? (fun q => q.2 == n) = some p) ∧ ((p.2 == n) = false → ∀ q ∈ ps.take (j + 1), (q.2 == n) = false)) := find_step (fun (q : List UInt8 × Nat) => q.2 == n) ps j HF.out p hp
      obtain ⟨m, hm⟩ : ∃ m, 2 * j = m := ⟨_, rfl⟩
      rw [hm] at c1 hs1 hs2
      by_cases he : p.2 = n
      · have hq : ((Lib.decDigits p.2) == (Lib.decDigits n)) = true := by rw [he]; simp
        go_wp2_with fail
        go_ret
        refine ⟨?_, HB3.out⟩
        have := HS.out.1 (by simp [he])
        simp [tellF, this]
      · have hq : ((Lib.decDigits p.2) == (Lib.decDigits n)) = false := by
          cases h : (Lib.decDigits p.2) == (Lib.decDigits n) with
          | false => rfl
          | true => exact absurd (dec_inj (eq_of_beq h)) he
        have HS2 : Hid (∀ q ∈ ps.take (j + 1), (q.2 == n) = false) := HS.out.2 (by simp [he])
        clear c1 hs1 hs2 HS he
        go_wp2_with fail
        refine ⟨⟨by first | rfl | trivial, j + 1, by omega, ?_, HS2⟩, ?_⟩
        · rw [← ei]; go_num
        · simp [intOf]; omega
    · have hjN : j = N := by omega
      have hb1 : ¬ (i : Int) < ((2 * N : Nat) : Int) := by omega
      have HT : Hid (ps.find? (fun (q : List UInt8 × Nat) => q.2 == n) = none) := find_end (fun (q : List UInt8 × Nat) => q.2 == n) ps j HF.out (by rw [HN.out]; omega)
      have c1 := HX3.out.2.1
      rw [ei]
      clear HF HC
      have hcat : ¬ 9223372036854775807 < pre.size + (Lib.decDigits n).length := by
        have := dec_len n (by omega)
        omega
      go_wp2_with fail
      go_ret
      refine ⟨?_, HB3.out⟩
      have := HT.out
      rw [cat_txt]
      simp [tellF, this]
end Go.Proofs.YtjfpkpblifbljaaDoor
