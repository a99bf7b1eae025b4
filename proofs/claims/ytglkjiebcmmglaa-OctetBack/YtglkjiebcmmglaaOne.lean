/- A reader's calls at places that are there, in the form in which a statement takes them. -/
import Derived.Test.YtglkjiebcmmglaaBack
namespace Go.Proofs.Ytglkjiebcmmglaa
open Go.ChangeShapes Go.WideShapes Go.ChangeAt Go.RowKit
set_option linter.unusedVariables false
set_option linter.unusedSimpArgs false

/-- Where a reader lies, and its bytes. -/
structure One (B gr : Nat) (a : Option Addr) (len ca : Nat) (zs : List Int) : Prop where
  hl : zs.length = len
  hca : len ≤ ca
  hm : len ≤ 140737488355328
  hda : a = none → ca = 0
  oar : Off a gr
  bgr : B ≤ gr
/-- It stands at a place; nothing below B has turned since w0. -/
def At1 (B : Nat) (w0 : World) (gr : Nat) (a : Option Addr) (len ca : Nat) (zs : List Int) (k : Nat) (W : World) : Prop :=
  RSt W gr a len ca (some k) ∧ Rd W a zs ∧ Below B w0 W
section
variable {B gr : Nat} {a : Option Addr} {len ca : Nat} {zs : List Int} {w0 : World} {k : Nat} {W : World}
theorem At1.step (E : One B gr a len ca zs) (hB : B ≤ w0.heap.size) (h : At1 B w0 gr a len ca zs k W) {W' : World} {k' : Nat} (hr : RSt W' gr a len ca (some k')) (hg : W.grownBy W' (some gr)) : At1 B w0 gr a len ca zs k' W' :=
  ⟨hr, h.2.1.grown hg E.oar, below_of_grown h.2.2 hB hg E.bgr⟩
theorem mv_ok (n : Nat) (h : k + n ≤ len) : mv len (some k) n = some (k + n) := by
  simp only [mv]; rw [if_pos ⟨by omega, by omega⟩]; rfl
theorem tk_ok (n : Nat) (hl : zs.length = len) (h : k + n ≤ len) : tk zs (some k) n = (zs.drop k).take n := by
  simp only [tk]; rw [if_pos ⟨by omega, by omega⟩]; rfl

theorem one_take (E : One B gr a len ca zs) (hB : B ≤ w0.heap.size) (h : At1 B w0 gr a len ca zs k W) (n : Nat) (hn : k + n ≤ len) :
    Calls Try.prog 34 #[.pointer (some ⟨gr, 0, none⟩), .int .i64 n] W fun e w' => ∃ a1 c1, e = .returned (.slice a1 n c1) ∧ Hid (Rd w' a1 ((zs.drop k).take n) ∧ Off a1 gr ∧ At1 B w0 gr a len ca zs (k + n) w' ∧ W.grownBy w' (some gr)) := by
  have h1 := rtake_any gr a len ca zs (some k) n W h.1 h.2.1 E.hl E.hca E.hm E.hda E.oar
  rw [tk_ok n E.hl hn, mv_ok n hn] at h1
  have hlen : ((zs.drop k).take n).length = n := by simp; have := E.hl; omega
  rw [hlen] at h1
  refine h1.mono ?_
  rintro e w' ⟨v, ys, rfl, H⟩
  obtain ⟨q1, q2, q3, q4⟩ := H.out
  obtain ⟨a1, rfl, hoa⟩ := q1.addr
  have hrd := hoa.rdTake n
  rw [q2] at hrd
  refine ⟨a1, _, rfl, hrd, ?_, h.step E hB q3 q4, q4⟩
  rintro y o rfl
  have h2 := (hoa.lt y rfl).1
  have h3 := h.1.1.lt
  omega
theorem one_jump (E : One B gr a len ca zs) (hB : B ≤ w0.heap.size) (h : At1 B w0 gr a len ca zs k W) (n : Nat) (hn : n ≤ len) :
    Calls Try.prog 30 #[.pointer (some ⟨gr, 0, none⟩), .int .i64 n] W fun e w' => e = .returned (.tuple #[]) ∧ Hid (At1 B w0 gr a len ca zs n w' ∧ W.grownBy w' (some gr)) := by
  have h1 := rjump_any gr a len ca zs (some k) n W h.1 h.2.1 E.hl E.hca E.hm E.hda E.oar
  have e1 : jm len (some k) n = some n := by simp only [jm]; rw [if_pos ⟨by omega, by omega⟩]; rfl
  rw [e1] at h1
  refine h1.mono ?_
  rintro e w' ⟨rfl, H⟩
  exact ⟨rfl, h.step E hB H.out.1 H.out.2, H.out.2⟩
theorem one_u16 (E : One B gr a len ca zs) (hB : B ≤ w0.heap.size) (h : At1 B w0 gr a len ca zs k W) (hn : k + 2 ≤ len) :
    Calls Try.prog 32 #[.pointer (some ⟨gr, 0, none⟩)] W fun e w' => e = .returned (.int .i64 (val ((zs.drop k).take 2))) ∧ Hid (At1 B w0 gr a len ca zs (k + 2) w') := by
  have h1 := ru16_any gr a len ca zs (some k) W h.1 h.2.1 E.hl E.hca E.hm E.hda E.oar
  rw [show tk zs (some k) 2 = (zs.drop k).take 2 from tk_ok 2 E.hl hn, show mv len (some k) 2 = some (k + 2) from mv_ok 2 hn] at h1
  refine h1.mono ?_
  rintro e w' ⟨rfl, H⟩
  exact ⟨rfl, h.step E hB H.out.1 H.out.2⟩
theorem one_u32 (E : One B gr a len ca zs) (hB : B ≤ w0.heap.size) (h : At1 B w0 gr a len ca zs k W) (hn : k + 4 ≤ len) :
    Calls Try.prog 33 #[.pointer (some ⟨gr, 0, none⟩)] W fun e w' => e = .returned (.int .u32 (val ((zs.drop k).take 4))) ∧ Hid (At1 B w0 gr a len ca zs (k + 4) w') := by
  have h1 := ru32_any gr a len ca zs (some k) W h.1 h.2.1 E.hl E.hca E.hm E.hda E.oar
  rw [show tk zs (some k) 4 = (zs.drop k).take 4 from tk_ok 4 E.hl hn, show mv len (some k) 4 = some (k + 4) from mv_ok 4 hn] at h1
  refine h1.mono ?_
  rintro e w' ⟨rfl, H⟩
  exact ⟨rfl, h.step E hB H.out.1 H.out.2⟩
theorem one_at (E : One B gr a len ca zs) (hB : B ≤ w0.heap.size) (h : At1 B w0 gr a len ca zs k W) :
    Calls Try.prog 35 #[.pointer (some ⟨gr, 0, none⟩)] W fun e w' => e = .returned (.int .i64 k) ∧ Hid (At1 B w0 gr a len ca zs k w') := by
  refine (rat_any gr a len ca zs (some k) W h.1 h.2.1 E.hl E.hca E.hm E.hda E.oar).mono ?_
  rintro e w' ⟨rfl, H⟩
  exact ⟨rfl, h.step E hB H.out.1 H.out.2⟩
theorem one_left (E : One B gr a len ca zs) (hB : B ≤ w0.heap.size) (h : At1 B w0 gr a len ca zs k W) :
    Calls Try.prog 36 #[.pointer (some ⟨gr, 0, none⟩)] W fun e w' => e = .returned (.int .i64 ((len : Int) - k)) ∧ Hid (At1 B w0 gr a len ca zs k w') := by
  refine (rleft_any gr a len ca zs (some k) W h.1 h.2.1 E.hl E.hca E.hm E.hda E.oar).mono ?_
  rintro e w' ⟨rfl, H⟩
  exact ⟨rfl, h.step E hB H.out.1 H.out.2⟩
theorem one_bad (E : One B gr a len ca zs) (hB : B ≤ w0.heap.size) (h : At1 B w0 gr a len ca zs k W) :
    Calls Try.prog 37 #[.pointer (some ⟨gr, 0, none⟩)] W fun e w' => e = .returned (.bool false) ∧ Hid (At1 B w0 gr a len ca zs k w') := by
  refine (rbad_any gr a len ca zs (some k) W h.1 h.2.1 E.hl E.hca E.hm E.hda E.oar).mono ?_
  rintro e w' ⟨rfl, H⟩
  exact ⟨rfl, h.step E hB H.out.1 H.out.2⟩
end
end Go.Proofs.Ytglkjiebcmmglaa
