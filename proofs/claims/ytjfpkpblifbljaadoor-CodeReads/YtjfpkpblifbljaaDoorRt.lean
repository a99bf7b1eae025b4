/- The document's own answer: the word of a number. -/
import Derived.Test.YtjfpkpblifbljaaDoorRf
namespace Go.Proofs.YtjfpkpblifbljaaDoor
open Go.ChangeShapes Go.WideShapes Go.ChangeAt Go.RowKit
set_option linter.unusedVariables false
set_option linter.unusedSimpArgs false

/-- The words and the numbers of a kind, in two blocks. -/
def RK (w : World) (b1 b2 : Nat) (ps : Own4) : Prop :=
  b1 < w.heap.size ∧ b2 < w.heap.size ∧ ∀ j p, ps[j]? = some p → w.cell? ⟨b1, j, none⟩ = some (.string ⟨p.1.toArray⟩) ∧ w.cell? ⟨b2, j, none⟩ = some (.int .i64 p.2)
theorem RK.below {w w' : World} {b1 b2 : Nat} {ps : Own4} (h : RK w b1 b2 ps) (hb : Below w.heap.size w w') : RK w' b1 b2 ps :=
  ⟨Nat.lt_of_lt_of_le h.1 hb.size, Nat.lt_of_lt_of_le h.2.1 hb.size, fun j p hp => ⟨(hb.cell (p := ⟨b1, j, none⟩) h.1).trans (h.2.2 j p hp).1, (hb.cell (p := ⟨b2, j, none⟩) h.2.1).trans (h.2.2 j p hp).2⟩⟩
/-- The document's kind in a block of its own. -/
def RBox (w : World) (b b1 b2 N : Nat) (pre : ByteArray) (many : Int) : Prop :=
  w.cell? ⟨b, 0, none⟩ = some (.slice (some ⟨b1, 0, none⟩) N N) ∧ w.cell? ⟨b, 1, none⟩ = some (.slice (some ⟨b2, 0, none⟩) N N) ∧ w.cell? ⟨b, 2, none⟩ = some (.string pre) ∧ w.cell? ⟨b, 3, none⟩ = some (.int .i64 many) ∧ b < w.heap.size
theorem RBox.new (w : World) (b1 b2 N : Nat) (pre : ByteArray) (many : Int) : RBox (w.alloc (.cells #[.slice (some ⟨b1, 0, none⟩) N N, .slice (some ⟨b2, 0, none⟩) N N, .string pre, .int .i64 many] 37)) w.heap.size b1 b2 N pre many := by
  refine ⟨?_, ?_, ?_, ?_, by simp⟩ <;> (unfold World.cell?; rw [heap_alloc_new]; rfl)
theorem RBox.below {w w' : World} {b b1 b2 N : Nat} {pre : ByteArray} {many : Int} (h : RBox w b b1 b2 N pre many) (hb : Below w.heap.size w w') : RBox w' b b1 b2 N pre many :=
  ⟨(hb.cell (p := ⟨b, 0, none⟩) h.2.2.2.2).trans h.1, (hb.cell (p := ⟨b, 1, none⟩) h.2.2.2.2).trans h.2.1, (hb.cell (p := ⟨b, 2, none⟩) h.2.2.2.2).trans h.2.2.1, (hb.cell (p := ⟨b, 3, none⟩) h.2.2.2.2).trans h.2.2.2.1, Nat.lt_of_lt_of_le h.2.2.2.2 hb.size⟩

set_option maxRecDepth 100000 in
set_option maxHeartbeats 1000000 in
theorem rtell_any (b1 b2 N : Nat) (pre : ByteArray) (many : Int) (ps : Own4) (n : Nat) (hn : n < 65536) (hN : ps.length = N) (hN2 : N ≤ 1000) (hpre : pre.size ≤ 100) (w : World) (hR : RK w b1 b2 ps) :
    Calls Tryd.prog 36 #[.agg #[.slice (some ⟨b1, 0, none⟩) N N, .slice (some ⟨b2, 0, none⟩) N N, .string pre, .int .i64 many], .int .i64 n] w fun e w' => e = .returned (.string ⟨(tellF ps pre.data.toList n).toArray⟩) ∧ Hid (Below w.heap.size w w') := by
  have HB : Hid (Below w.heap.size w (w.alloc (.cells #[.slice (some ⟨b1, 0, none⟩) N N, .slice (some ⟨b2, 0, none⟩) N N, .string pre, .int .i64 many] 37))) := (Below.refl _ _).alloc (Nat.le_refl _) _
  have HX : Hid (RBox (w.alloc (.cells #[.slice (some ⟨b1, 0, none⟩) N N, .slice (some ⟨b2, 0, none⟩) N N, .string pre, .int .i64 many] 37)) w.heap.size b1 b2 N pre many) := RBox.new w b1 b2 N pre many
  have HR : Hid (RK (w.alloc (.cells #[.slice (some ⟨b1, 0, none⟩) N N, .slice (some ⟨b2, 0, none⟩) N N, .string pre, .int .i64 many] 37)) b1 b2 ps) := hR.below HB.out
  have HN : Hid (ps.length = N) := hN
  clear hR hN
  go_enter Tryd.func36, Tryd.ntmps36
  go_wp2_with fail
  generalize (w.alloc (.cells #[.slice (some ⟨b1, 0, none⟩) N N, .slice (some ⟨b2, 0, none⟩) N N, .string pre, .int .i64 many] 37)) = W1 at *
  go_loopw [5] (fun x wr => wr = W1 ∧ ∃ j : Nat, j ≤ N ∧ x = .int .i64 (j : Int) ∧ Hid (∀ p ∈ ps.take j, (p.2 == n) = false)) (fun x _ => N - (intOf x).toNat)
  case atStart => exact ⟨rfl, 0, Nat.zero_le _, rfl, by intro p hp; simp at hp⟩
  case round =>
    obtain ⟨rfl, j, hj, rfl, HF⟩ := hrel
    have c0 := HX.out.1
    have c1 := HX.out.2.1
    by_cases hlt : j < N
    · have hlt' : (j : Int) < (N : Int) := by omega
      obtain ⟨p, hp⟩ : ∃ p, ps[j]? = some p := ⟨_, List.getElem?_eq_getElem (by rw [HN.out]; exact hlt)⟩
      obtain ⟨d1, d2⟩ := HR.out.2.2 j p hp
      have HS : Hid (((p.2 == n) = true → ps.find? (fun q => q.2 == n) = some p) ∧ ((p.2 == n) = false → ∀ q ∈ ps.take (j + 1), (q.2 == n) = false)) := find_step (fun (q : List UInt8 × Nat) => q.2 == n) ps j HF.out p hp
      by_cases he : p.2 = n
      · have HT : Hid (tellF ps pre.data.toList n = p.1) := by
          have := HS.out.1 (by simp [he])
          show _ = _
          simp [tellF, this]
        rw [he] at d2
        clear HS he
        go_wp2_with fail
        go_ret
        exact ⟨by rw [HT.out]; rfl, HB.out⟩
      · have HS2 : Hid (∀ q ∈ ps.take (j + 1), (q.2 == n) = false) := HS.out.2 (by simp [he])
        have hq : ((p.2 : Int) == (n : Int)) = false := by simp; omega
        have hq2 : (p.2 == n) = false := by simp [he]
        clear HS he
        go_wp2_with fail
        refine ⟨⟨by first | rfl | trivial, j + 1, by omega, by go_num, HS2⟩, ?_⟩
        simp [intOf]; omega
    · have hge : ¬ (j : Int) < (N : Int) := by omega
      have HT : Hid (tellF ps pre.data.toList n = pre.data.toList ++ Lib.decDigits n) := by
        have := find_end (fun (q : List UInt8 × Nat) => q.2 == n) ps j HF.out (by rw [HN.out]; omega)
        show _ = _
        simp [tellF, this]
      have c2 := HX.out.2.2.1
      have hbl := HX.out.2.2.2.2
      have KD : Hid (∀ W, Calls Tryd.prog 38 #[.int .i64 n] W fun e w' => e = .returned (.string ⟨(Lib.decDigits n).toArray⟩) ∧ Hid (Below W.heap.size W w')) := fun W => decimal_any n hn W
      have hcat : ¬ 9223372036854775807 < pre.size + (Lib.decDigits n).length := by
        have := dec_len n (by omega)
        omega
      have HBd : Hid (Below w.heap.size w wr.drew ∧ w.heap.size ≤ wr.drew.heap.size) := ⟨HB.out.drew, HB.out.size⟩
      clear HF HR HX HB HN
      obtain ⟨b, hb⟩ : ∃ b, b = w.heap.size := ⟨_, rfl⟩
      rw [← hb] at c0 c1 c2 hbl HBd ⊢
      have Hb : Hid (b = w.heap.size) := hb
      clear hb
      go_wp2_with fail
      go_region_held3 (fun W => W.cell? ⟨b, 2, none⟩ = some (.string pre)) (go_keep) (first
        | (go_at_call 38; refine (KD.out _).mono ?_; rintro e W2 ⟨rfl, H2⟩; have d2 : W2.cell? ⟨b, 2, none⟩ = some (.string pre) := (H2.out.cell (p := ⟨b, 2, none⟩) hbl).trans c2))
      all_goals
        go_wp2_with fail
        go_ret
        refine ⟨by rw [HT.out, cat_txt]; rfl, ?_⟩
        rw [← Hb.out]
        exact HBd.out.1.trans (H2.out.mono HBd.out.2)
end Go.Proofs.YtjfpkpblifbljaaDoor
