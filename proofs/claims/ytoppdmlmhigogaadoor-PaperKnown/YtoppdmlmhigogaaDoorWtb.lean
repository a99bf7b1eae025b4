/- Texts laid together, in parts: Lg Ha Hb Hc Hd He Nsw Hf Oca Occ Ge Qa Ak Un Qj Eb Zca Pf Pg Ph. -/
import Derived.Test.YtoppdmlmhigogaaDoorWta
import Derived.Deep.CutBlock
import Derived.Lib.Bytealg
import Derived.LaidEqlPtr
import Derived.WalkSpells
import Derived.Deep.RegionHeld3
import Derived.Deep.RegionLaw
import Derived.Deep.QuietTactic
import Derived.BigQuiet
import Derived.WalkLawsBesides
import Derived.Lib.MakeNoZero
import Derived.Lib.Builder
import Derived.Lib.UnsafeStr
import Derived.WalkKit
namespace Go.Proofs.YtoppdmlmhigogaaDoor
open Go.ChangeShapes Go.WideShapes Go.ChangeAt Go.RowKit
set_option linter.unusedVariables false
set_option linter.unusedSimpArgs false
/-- Data in a block of their own. -/
def DBox (w : World) (b : Nat) (x : DA) : Prop :=
  w.cell? ⟨b, 0, none⟩ = some (.slice x.p1.a x.p1.n x.p1.c) ∧ w.cell? ⟨b, 1, none⟩ = some (.slice x.p2.a x.p2.n x.p2.c) ∧ w.cell? ⟨b, 2, none⟩ = some (.slice x.p3.a x.p3.n x.p3.c) ∧ w.cell? ⟨b, 3, none⟩ = some (.slice x.p4.a x.p4.n x.p4.c) ∧ b < w.heap.size
theorem DBox.new (w : World) (x : DA) : DBox (w.alloc (.cells #[.slice x.p1.a x.p1.n x.p1.c, .slice x.p2.a x.p2.n x.p2.c, .slice x.p3.a x.p3.n x.p3.c, .slice x.p4.a x.p4.n x.p4.c] 35)) w.heap.size x := by
  refine ⟨?_, ?_, ?_, ?_, by simp⟩ <;> (unfold World.cell?; rw [heap_alloc_new]; rfl)
theorem DBox.below {w w' : World} {b : Nat} {x : DA} (h : DBox w b x) (hb : Below w.heap.size w w') : DBox w' b x :=
  ⟨(hb.cell (p := ⟨b, 0, none⟩) h.2.2.2.2).trans h.1, (hb.cell (p := ⟨b, 1, none⟩) h.2.2.2.2).trans h.2.1, (hb.cell (p := ⟨b, 2, none⟩) h.2.2.2.2).trans h.2.2.1, (hb.cell (p := ⟨b, 3, none⟩) h.2.2.2.2).trans h.2.2.2.1, Nat.lt_of_lt_of_le h.2.2.2.2 hb.size⟩
end Go.Proofs.YtoppdmlmhigogaaDoor
namespace Go.Proofs.YtoppdmlmhigogaaDoor
open Go.ChangeShapes Go.WideShapes Go.ChangeAt Go.RowKit
set_option linter.unusedVariables false
set_option linter.unusedSimpArgs false
/-- How many things data of a type have: names, those in front, numbers, their bytes, texts, tags, tails, bytes. -/
structure Fs where
  nn : Nat
  nf : Nat
  nu : Nat
  wd : Nat
  nt : Int
  tg : Nat
  tl : Nat
  nr : Int
def fs (t : Nat) : Fs :=
  if t = 1 then ⟨0, 0, 0, 0, 0, 0, 0, 4⟩ else if t = 28 then ⟨0, 0, 0, 0, 0, 0, 0, 16⟩ else if t = 2 ∨ t = 5 ∨ t = 12 then ⟨1, 0, 0, 0, 0, 0, 0, 0⟩ else if t = 6 then ⟨2, 2, 5, 4, 0, 0, 0, 0⟩ else
  if t = 15 then ⟨1, 0, 1, 2, 0, 0, 0, 0⟩ else if t = 33 then ⟨1, 0, 3, 2, 0, 0, 0, 0⟩ else if t = 16 then ⟨0, 0, 0, 0, -1, 0, 0, 0⟩ else if t = 257 then ⟨0, 0, 1, 1, 2, 1, 1, 0⟩ else ⟨0, 0, 0, 0, 0, 0, 0, -2⟩
theorem fs_cases (t : Nat) : (t = 1 ∧ fs t = ⟨0, 0, 0, 0, 0, 0, 0, 4⟩) ∨ (t = 28 ∧ fs t = ⟨0, 0, 0, 0, 0, 0, 0, 16⟩) ∨ ((t = 2 ∨ t = 5 ∨ t = 12) ∧ fs t = ⟨1, 0, 0, 0, 0, 0, 0, 0⟩) ∨ (t = 6 ∧ fs t = ⟨2, 2, 5, 4, 0, 0, 0, 0⟩) ∨
    (t = 15 ∧ fs t = ⟨1, 0, 1, 2, 0, 0, 0, 0⟩) ∨ (t = 33 ∧ fs t = ⟨1, 0, 3, 2, 0, 0, 0, 0⟩) ∨ (t = 16 ∧ fs t = ⟨0, 0, 0, 0, -1, 0, 0, 0⟩) ∨ (t = 257 ∧ fs t = ⟨0, 0, 1, 1, 2, 1, 1, 0⟩) ∨
    ((t ≠ 1 ∧ t ≠ 28 ∧ t ≠ 2 ∧ t ≠ 5 ∧ t ≠ 12 ∧ t ≠ 6 ∧ t ≠ 15 ∧ t ≠ 33 ∧ t ≠ 16 ∧ t ≠ 257) ∧ fs t = ⟨0, 0, 0, 0, 0, 0, 0, -2⟩) := by
  unfold fs
  by_cases h1 : t = 1
  · simp [h1]
  by_cases h2 : t = 28
  · simp [h2]
  by_cases h3 : t = 2 ∨ t = 5 ∨ t = 12
  · rcases h3 with h | h | h <;> simp [h]
  by_cases h4 : t = 6
  · simp [h4]
  by_cases h5 : t = 15
  · simp [h5]
  by_cases h6 : t = 33
  · simp [h6]
  by_cases h7 : t = 16
  · simp [h7]
  by_cases h8 : t = 257
  · simp [h8]
  · rw [if_neg h1, if_neg h2, if_neg h3, if_neg h4, if_neg h5, if_neg h6, if_neg h7, if_neg h8]
    simp only [not_or] at h3
    exact .inr (.inr (.inr (.inr (.inr (.inr (.inr (.inr ⟨⟨h1, h2, h3.1, h3.2.1, h3.2.2, h4, h5, h6, h7, h8⟩, rfl⟩)))))))
set_option maxRecDepth 100000 in
set_option maxHeartbeats 2000000 in
theorem fieldsof_any (t : Nat) (w : World) : Calls Tryd.prog 32 #[.int .u16 t] w fun e w' => e = .returned (.agg #[.int .i64 (fs t).nn, .int .i64 (fs t).nf, .int .i64 (fs t).nu, .int .i64 (fs t).wd, .int .i64 (fs t).nt, .int .i64 (fs t).tg, .int .i64 (fs t).tl, .int .i64 (fs t).nr]) ∧ Hid (Below w.heap.size w w') := by
  rcases fs_cases t with ⟨ht, e⟩ | ⟨ht, e⟩ | ⟨ht, e⟩ | ⟨ht, e⟩ | ⟨ht, e⟩ | ⟨ht, e⟩ | ⟨ht, e⟩ | ⟨ht, e⟩ | ⟨ht, e⟩
  · subst ht; rw [e]; clear e
    go_enter Tryd.func32, Tryd.ntmps32
    go_wp2_with fail
    exact bodyPost_ret (v := .agg #[.int .i64 0, .int .i64 0, .int .i64 0, .int .i64 0, .int .i64 0, .int .i64 0, .int .i64 0, .int .i64 4]) (by simp [results, Tryd.results32, go_sem]) rfl ⟨rfl, (Below.refl _ _).alloc (Nat.le_refl _) _⟩
  · subst ht; rw [e]; clear e
    go_enter Tryd.func32, Tryd.ntmps32
    go_wp2_with fail
    exact bodyPost_ret (v := .agg #[.int .i64 0, .int .i64 0, .int .i64 0, .int .i64 0, .int .i64 0, .int .i64 0, .int .i64 0, .int .i64 16]) (by simp [results, Tryd.results32, go_sem]) rfl ⟨rfl, (Below.refl _ _).alloc (Nat.le_refl _) _⟩
  · rw [e]; clear e
    rcases ht with rfl | rfl | rfl
    all_goals
      go_enter Tryd.func32, Tryd.ntmps32
      go_wp2_with fail
      exact bodyPost_ret (v := .agg #[.int .i64 1, .int .i64 0, .int .i64 0, .int .i64 0, .int .i64 0, .int .i64 0, .int .i64 0, .int .i64 0]) (by simp [results, Tryd.results32, go_sem]) rfl ⟨rfl, (Below.refl _ _).alloc (Nat.le_refl _) _⟩
  · subst ht; rw [e]; clear e
    go_enter Tryd.func32, Tryd.ntmps32
    go_wp2_with fail
    exact bodyPost_ret (v := .agg #[.int .i64 2, .int .i64 2, .int .i64 5, .int .i64 4, .int .i64 0, .int .i64 0, .int .i64 0, .int .i64 0]) (by simp [results, Tryd.results32, go_sem]) rfl ⟨rfl, (Below.refl _ _).alloc (Nat.le_refl _) _⟩
  · subst ht; rw [e]; clear e
    go_enter Tryd.func32, Tryd.ntmps32
    go_wp2_with fail
    exact bodyPost_ret (v := .agg #[.int .i64 1, .int .i64 0, .int .i64 1, .int .i64 2, .int .i64 0, .int .i64 0, .int .i64 0, .int .i64 0]) (by simp [results, Tryd.results32, go_sem]) rfl ⟨rfl, (Below.refl _ _).alloc (Nat.le_refl _) _⟩
  · subst ht; rw [e]; clear e
    go_enter Tryd.func32, Tryd.ntmps32
    go_wp2_with fail
    exact bodyPost_ret (v := .agg #[.int .i64 1, .int .i64 0, .int .i64 3, .int .i64 2, .int .i64 0, .int .i64 0, .int .i64 0, .int .i64 0]) (by simp [results, Tryd.results32, go_sem]) rfl ⟨rfl, (Below.refl _ _).alloc (Nat.le_refl _) _⟩
  · subst ht; rw [e]; clear e
    go_enter Tryd.func32, Tryd.ntmps32
    go_wp2_with fail
    exact bodyPost_ret (v := .agg #[.int .i64 0, .int .i64 0, .int .i64 0, .int .i64 0, .int .i64 (-1), .int .i64 0, .int .i64 0, .int .i64 0]) (by simp [results, Tryd.results32, go_sem]) rfl ⟨rfl, (Below.refl _ _).alloc (Nat.le_refl _) _⟩
  · subst ht; rw [e]; clear e
    go_enter Tryd.func32, Tryd.ntmps32
    go_wp2_with fail
    exact bodyPost_ret (v := .agg #[.int .i64 0, .int .i64 0, .int .i64 1, .int .i64 1, .int .i64 2, .int .i64 1, .int .i64 1, .int .i64 0]) (by simp [results, Tryd.results32, go_sem]) rfl ⟨rfl, (Below.refl _ _).alloc (Nat.le_refl _) _⟩
  · rw [e]; clear e
    obtain ⟨h1, h2, h3, h4, h5, h6, h7, h8, h9, h10⟩ := ht
    have q1 : ((t : Int) == 1) = false := by simp; omega
    have q2 : ((t : Int) == 28) = false := by simp; omega
    have q3 : ((t : Int) == 2) = false := by simp; omega
    have q4 : ((t : Int) == 5) = false := by simp; omega
    have q5 : ((t : Int) == 12) = false := by simp; omega
    have q6 : ((t : Int) == 6) = false := by simp; omega
    have q7 : ((t : Int) == 15) = false := by simp; omega
    have q8 : ((t : Int) == 33) = false := by simp; omega
    have q9 : ((t : Int) == 16) = false := by simp; omega
    have q10 : ((t : Int) == 257) = false := by simp; omega
    clear h1 h2 h3 h4 h5 h6 h7 h8 h9 h10
    go_enter Tryd.func32, Tryd.ntmps32
    go_wp2_with fail
    exact bodyPost_ret (v := .agg #[.int .i64 0, .int .i64 0, .int .i64 0, .int .i64 0, .int .i64 0, .int .i64 0, .int .i64 0, .int .i64 (-2)]) (by simp [results, Tryd.results32, go_sem]) rfl ⟨rfl, (Below.refl _ _).alloc (Nat.le_refl _) _⟩
set_option maxRecDepth 100000 in
set_option maxHeartbeats 1000000 in
theorem asked_any (t : Int) (w : World) : Calls Tryd.prog 30 #[.int .u16 t] w fun e w' => e = .returned (.bool (decide (128 ≤ t) && decide (t ≤ 255))) ∧ w' = w := by
  go_enter Tryd.func30, Tryd.ntmps30
  go_wp2
  all_goals
    go_ret
    refine ⟨ret_bool ?_, rfl⟩
    simp_all
    try omega
set_option maxRecDepth 100000 in
set_option maxHeartbeats 1000000 in
/-- Whether there are data of a type. -/
theorem hasdata_any (t : Nat) (w : World) : Calls Tryd.prog 31 #[.int .u16 t] w fun e w' => e = .returned (.bool (mayT t)) ∧ w' = w := by
  have HS : Hid (∀ W, Calls Tryd.prog 16 #[.int .u16 t] W fun e w' => e = .returned (.bool (decide (t ≠ 0) && decide (t ≠ 41) && (decide (t < 128) || decide (255 < t)))) ∧ w' = W) := by
    intro W
    go_enter Tryd.func16, Tryd.ntmps16
    by_cases h0 : t = 0
    · subst h0
      go_wp2_with fail
      go_ret
      exact ⟨ret_bool (by decide), rfl⟩
    · by_cases h1 : t = 41
      · subst h1
        go_wp2_with fail
        go_ret
        exact ⟨ret_bool (by decide), rfl⟩
      · have q0 : ((t : Int) == 0) = false := by simp; omega
        have q1 : ((t : Int) == 41) = false := by simp; omega
        go_wp2_with fail
        refine (asked_any t _).mono ?_
        rintro e W ⟨rfl, rfl⟩
        go_wp2_with fail
        go_ret
        refine ⟨ret_bool ?_, rfl⟩
        simp [h0, h1]
        by_cases h2 : t < 128
        · simp [h2]; omega
        · by_cases h3 : 255 < t
          · simp [h3]; omega
          · simp [h2, h3]; omega
  go_enter Tryd.func31, Tryd.ntmps31
  by_cases h1 : t = 41
  · subst h1
    go_wp2_with fail
    refine (HS.out _).mono ?_
    rintro e W ⟨rfl, rfl⟩
    go_wp2_with fail
    go_ret
    exact ⟨rfl, rfl⟩
  · have q1 : ((t : Int) == 41) = false := by simp; omega
    go_wp2_with fail
    refine (HS.out _).mono ?_
    rintro e W ⟨rfl, rfl⟩
    have hm : (decide (t ≠ 0) && decide (t ≠ 41) && (decide (t < 128) || decide (255 < t))) = mayT t := by simp [mayT, h1]
    rw [hm]
    cases hmt : mayT t
    all_goals
      go_wp2_with fail
      go_ret
      exact ⟨ret_bool (by rw [hmt]), rfl⟩
/-- Whether so many things are as many as a count says. -/
def fitB (n : Nat) (c : Int) : Bool := if c = -1 then decide (0 < n) else if c = -2 then true else decide ((n : Int) = c)
set_option maxRecDepth 100000 in
set_option maxHeartbeats 1000000 in
theorem pfits_any (n : Nat) (c : Int) (w : World) : Calls Tryd.prog 46 #[.int .i64 n, .int .i64 c] w fun e w' => e = .returned (.bool (fitB n c)) ∧ w' = w := by
  unfold fitB
  by_cases h1 : c = -1
  · subst h1
    rw [if_pos rfl]
    go_enter Tryd.func46, Tryd.ntmps46
    go_wp2_with fail
    go_ret
    exact ⟨ret_bool (by simp), rfl⟩
  rw [if_neg h1]
  have q1 : (c == -1) = false := by simp [h1]
  by_cases h2 : c = -2
  · subst h2
    rw [if_pos rfl]
    go_enter Tryd.func46, Tryd.ntmps46
    go_wp2_with fail
    go_ret
    exact ⟨rfl, rfl⟩
  rw [if_neg h2]
  have q2 : (c == -2) = false := by simp [h2]
  go_enter Tryd.func46, Tryd.ntmps46
  go_wp2_with fail
  go_ret
  exact ⟨ret_bool (by by_cases h : (n : Int) = c <;> simp [h]), rfl⟩
/-- Fields in a block of their own. -/
def FBox (w : World) (b : Nat) (f : Fs) : Prop :=
  w.cell? ⟨b, 0, none⟩ = some (.int .i64 f.nn) ∧ w.cell? ⟨b, 1, none⟩ = some (.int .i64 f.nf) ∧ w.cell? ⟨b, 2, none⟩ = some (.int .i64 f.nu) ∧ w.cell? ⟨b, 3, none⟩ = some (.int .i64 f.wd) ∧ w.cell? ⟨b, 4, none⟩ = some (.int .i64 f.nt) ∧ w.cell? ⟨b, 5, none⟩ = some (.int .i64 f.tg) ∧ w.cell? ⟨b, 6, none⟩ = some (.int .i64 f.tl) ∧ w.cell? ⟨b, 7, none⟩ = some (.int .i64 f.nr) ∧ b < w.heap.size
theorem FBox.new (w : World) (f : Fs) : FBox (w.alloc (.cells #[.int .i64 f.nn, .int .i64 f.nf, .int .i64 f.nu, .int .i64 f.wd, .int .i64 f.nt, .int .i64 f.tg, .int .i64 f.tl, .int .i64 f.nr] 72)) w.heap.size f := by
  refine ⟨?_, ?_, ?_, ?_, ?_, ?_, ?_, ?_, by simp⟩ <;> (unfold World.cell?; rw [heap_alloc_new]; rfl)
theorem FBox.below {w w' : World} {b : Nat} {f : Fs} (h : FBox w b f) (hb : Below w.heap.size w w') : FBox w' b f := by
  obtain ⟨h0, h1, h2, h3, h4, h5, h6, h7, hl⟩ := h
  exact ⟨(hb.cell (p := ⟨b, 0, none⟩) hl).trans h0, (hb.cell (p := ⟨b, 1, none⟩) hl).trans h1, (hb.cell (p := ⟨b, 2, none⟩) hl).trans h2, (hb.cell (p := ⟨b, 3, none⟩) hl).trans h3, (hb.cell (p := ⟨b, 4, none⟩) hl).trans h4, (hb.cell (p := ⟨b, 5, none⟩) hl).trans h5, (hb.cell (p := ⟨b, 6, none⟩) hl).trans h6, (hb.cell (p := ⟨b, 7, none⟩) hl).trans h7, Nat.lt_of_lt_of_le hl hb.size⟩
/-- Fields and data, each in a block of its own. -/
def PtSt (w W : World) (b : Nat) (f : Fs) (x : DA) (d : Dat) : Prop := FBox W b f ∧ DBox W (b + 1) x ∧ DRd W x d ∧ Below w.heap.size w W
theorem PtSt.new (w : World) (f : Fs) (x : DA) (d : Dat) (h : DRd w x d) : PtSt w ((w.alloc (.cells #[.int .i64 f.nn, .int .i64 f.nf, .int .i64 f.nu, .int .i64 f.wd, .int .i64 f.nt, .int .i64 f.tg, .int .i64 f.tl, .int .i64 f.nr] 72)).alloc (.cells #[.slice x.p1.a x.p1.n x.p1.c, .slice x.p2.a x.p2.n x.p2.c, .slice x.p3.a x.p3.n x.p3.c, .slice x.p4.a x.p4.n x.p4.c] 35)) w.heap.size f x d := by
  have hb1 : Below w.heap.size w (w.alloc (.cells #[.int .i64 f.nn, .int .i64 f.nf, .int .i64 f.nu, .int .i64 f.wd, .int .i64 f.nt, .int .i64 f.tg, .int .i64 f.tl, .int .i64 f.nr] 72)) := (Below.refl _ _).alloc (Nat.le_refl _) _
  have HX := FBox.new w f
  have hx1 := h.below hb1
  obtain ⟨W0, hW0⟩ : ∃ W, W = w.alloc (.cells #[.int .i64 f.nn, .int .i64 f.nf, .int .i64 f.nu, .int .i64 f.wd, .int .i64 f.nt, .int .i64 f.tg, .int .i64 f.tl, .int .i64 f.nr] 72) := ⟨_, rfl⟩
  have hs0 : W0.heap.size = w.heap.size + 1 := by rw [hW0]; simp
  rw [← hW0] at hb1 HX hx1 ⊢
  have hb2 : Below W0.heap.size W0 (W0.alloc (.cells #[.slice x.p1.a x.p1.n x.p1.c, .slice x.p2.a x.p2.n x.p2.c, .slice x.p3.a x.p3.n x.p3.c, .slice x.p4.a x.p4.n x.p4.c] 35)) := (Below.refl _ _).alloc (Nat.le_refl _) _
  have HY := DBox.new W0 x
  rw [hs0] at HY
  exact ⟨HX.below hb2, HY, hx1.below hb2, hb1.trans (hb2.mono hb1.size)⟩
/-- Whether data have as many things as fields say. -/
def cntB (f : Fs) (d : Dat) : Bool := fitB d.ns.length f.nn && fitB d.us.length f.nu && fitB d.ts.length f.nt && fitB d.raw.length f.nr
set_option maxRecDepth 100000 in
set_option maxHeartbeats 2000000 in
theorem counted_any (f : Fs) (x : DA) (d : Dat) (w : World) (h : DRd w x d) :
    Calls Tryd.prog 33 #[.agg #[.int .i64 f.nn, .int .i64 f.nf, .int .i64 f.nu, .int .i64 f.wd, .int .i64 f.nt, .int .i64 f.tg, .int .i64 f.tl, .int .i64 f.nr], .agg #[.slice x.p1.a x.p1.n x.p1.c, .slice x.p2.a x.p2.n x.p2.c, .slice x.p3.a x.p3.n x.p3.c, .slice x.p4.a x.p4.n x.p4.c]] w fun e w' => e = .returned (.bool (cntB f d)) ∧ Hid (Below w.heap.size w w') := by
  have H : Hid (PtSt w ((w.alloc (.cells #[.int .i64 f.nn, .int .i64 f.nf, .int .i64 f.nu, .int .i64 f.wd, .int .i64 f.nt, .int .i64 f.tg, .int .i64 f.tl, .int .i64 f.nr] 72)).alloc (.cells #[.slice x.p1.a x.p1.n x.p1.c, .slice x.p2.a x.p2.n x.p2.c, .slice x.p3.a x.p3.n x.p3.c, .slice x.p4.a x.p4.n x.p4.c] 35)) w.heap.size f x d) := PtSt.new w f x d h
  have l1 := h.h1.len
  have l2 := h.h2.len
  have l3 := h.h3.len
  have l4 := h.h4.len
  clear h
  unfold cntB
  rw [l1, l2, l3, l4]
  clear l1 l2 l3 l4
  obtain ⟨nn, nf, nu, wd, nt, tg, tl, nr⟩ := f
  obtain ⟨⟨a1, n1, k1⟩, ⟨a2, n2, k2⟩, ⟨a3, n3, k3⟩, ⟨a4, n4, k4⟩⟩ := x
  simp only at H ⊢
  go_enter Tryd.func33, Tryd.ntmps33
  go_upto_region 1 with fail
  generalize ((w.alloc (.cells #[.int .i64 nn, .int .i64 nf, .int .i64 nu, .int .i64 wd, .int .i64 nt, .int .i64 tg, .int .i64 tl, .int .i64 nr] 72)).alloc (.cells #[.slice a1 n1 k1, .slice a2 n2 k2, .slice a3 n3 k3, .slice a4 n4 k4] 35)) = W1 at *
  have s0 := H.out.1.1
  have s2 := H.out.1.2.2.1
  have s4 := H.out.1.2.2.2.2.1
  have s7 := H.out.1.2.2.2.2.2.2.2.1
  have c0 := H.out.2.1.1
  have c1 := H.out.2.1.2.1
  have c2 := H.out.2.1.2.2.1
  have c3 := H.out.2.1.2.2.2.1
  simp only at s0 s2 s4 s7 c0 c1 c2 c3
  go_wp2_with fail
  refine (pfits_any n1 nn _).mono ?_
  rintro e W ⟨rfl, rfl⟩
  cases hfn1 : fitB n1 nn with
  | false =>
    go_wp2_with fail
    go_ret
    exact ⟨ret_bool (by simp [*]), H.out.2.2.2⟩
  | true =>
    go_wp2_with fail
    refine (pfits_any n2 nu _).mono ?_
    rintro e W ⟨rfl, rfl⟩
    cases hfn2 : fitB n2 nu with
    | false =>
      go_wp2_with fail
      go_ret
      exact ⟨ret_bool (by simp [*]), H.out.2.2.2⟩
    | true =>
      go_wp2_with fail
      refine (pfits_any n3 nt _).mono ?_
      rintro e W ⟨rfl, rfl⟩
      cases hfn3 : fitB n3 nt with
      | false =>
        go_wp2_with fail
        go_ret
        exact ⟨ret_bool (by simp [*]), H.out.2.2.2⟩
      | true =>
        go_wp2_with fail
        refine (pfits_any n4 nr _).mono ?_
        rintro e W ⟨rfl, rfl⟩
        go_wp2_with fail
        go_ret
        exact ⟨ret_bool (by simp [*]), H.out.2.2.2⟩
end Go.Proofs.YtoppdmlmhigogaaDoor
namespace Go.Proofs.YtoppdmlmhigogaaDoor
open Go.ChangeShapes Go.WideShapes Go.ChangeAt Go.RowKit
set_option linter.unusedVariables false
set_option linter.unusedSimpArgs false
theorem call87 (s : ByteArray) (c : Int) (w : World) : (callFunc 87 #[.string s, .int .u8 c]).run Tryd.prog w = .ok (.value (.int .i64 (Lib.indexByte s.data.toList c.toNat.toUInt8))) w := by
  rw [run_callFunc_extern Tryd.func87 (by kernel_rfl) (by kernel_rfl) (by kernel_rfl) (by kernel_rfl) _ w]
  show ((Extern.BytealgIndexByte.indexByte #[.string s, .int .u8 c]).run Tryd.prog w).andThen _ = _
  rw [Lib.run_indexByteString]
  rfl
set_option maxRecDepth 100000 in
set_option maxHeartbeats 400000 in
theorem sidx_any (s : ByteArray) (c : Int) (w : World) : Calls Tryd.prog 78 #[.string s, .int .u8 c] w fun e w' => e = .returned (.int .i64 (Lib.indexByte s.data.toList c.toNat.toUInt8)) ∧ w' = w := by
  have h := call87 s c
  go_enter Tryd.func78, Tryd.ntmps78
  go_wp2
  go_ret
  exact ⟨rfl, rfl⟩
set_option maxRecDepth 100000 in
set_option maxHeartbeats 400000 in
theorem idx_any (s : ByteArray) (c : Int) (w : World) : Calls Tryd.prog 61 #[.string s, .int .u8 c] w fun e w' => e = .returned (.int .i64 (Lib.indexByte s.data.toList c.toNat.toUInt8)) ∧ w' = w := by
  go_enter Tryd.func61, Tryd.ntmps61
  go_wp2_with fail
  refine (sidx_any s c _).mono ?_
  rintro e w1 ⟨rfl, rfl⟩
  go_wp2
  go_ret
  exact ⟨rfl, rfl⟩
/-- Letters and digits. -/
def tagged : List UInt8 := [97, 98, 99, 100, 101, 102, 103, 104, 105, 106, 107, 108, 109, 110, 111, 112, 113, 114, 115, 116, 117, 118, 119, 120, 121, 122, 65, 66, 67, 68, 69, 70, 71, 72, 73, 74, 75, 76, 77, 78, 79, 80, 81, 82, 83, 84, 85, 86, 87, 88, 89, 90, 48, 49, 50, 51, 52, 53, 54, 55, 56, 57]
set_option maxRecDepth 100000 in
theorem tagged_idx : ∀ n : Fin 256, decide (Lib.indexByte tagged n.val.toUInt8 < 0) = !alnum (n.val : Int) := by decide +kernel
theorem idx_tag (c : Int) (h0 : 0 ≤ c) (h1 : c ≤ 255) (w : World) : Calls Tryd.prog 61 #[.string { data := #[97, 98, 99, 100, 101, 102, 103, 104, 105, 106, 107, 108, 109, 110, 111, 112, 113, 114, 115, 116, 117, 118, 119, 120, 121, 122, 65, 66, 67, 68, 69, 70, 71, 72, 73, 74, 75, 76, 77, 78, 79, 80, 81, 82, 83, 84, 85, 86, 87, 88, 89, 90, 48, 49, 50, 51, 52, 53, 54, 55, 56, 57] }, .int .u8 c] w fun e w' => ∃ k, e = .returned (.int .i64 k) ∧ Hid (decide (k < 0) = !alnum c) ∧ w' = w := by
  refine (idx_any _ c w).mono ?_
  rintro e w1 ⟨rfl, rfl⟩
  refine ⟨_, rfl, ?_, rfl⟩
  have := tagged_idx ⟨c.toNat, by omega⟩
  simp only at this
  rw [Int.toNat_of_nonneg h0] at this
  exact this
set_option maxRecDepth 100000 in
set_option maxHeartbeats 2000000 in
theorem istag_any (s : ByteArray) (hs : s.size ≤ 9223372036854775807) (w : World) : Calls Tryd.prog 47 #[.string s] w fun e w' => e = .returned (.bool (tagB s)) ∧ w' = w := by
  by_cases h1 : s.size = 0
  · have HE : Hid (tagB s = false) := by show _ = _; simp [tagB]; omega
    have h1' : ((s.size : Int) == 0) = true := by rw [beq_iff_eq]; omega
    go_enter Tryd.func47, Tryd.ntmps47
    go_wp2_with fail
    go_ret
    exact ⟨by rw [HE.out]; rfl, rfl⟩
  · have h1' : ((s.size : Int) == 0) = false := by rw [beq_eq_false_iff_ne]; omega
    by_cases h2 : 15 < s.size
    · have HE : Hid (tagB s = false) := by show _ = _; simp [tagB]; omega
      have h2' : (15 : Int) < (s.size : Int) := by omega
      go_enter Tryd.func47, Tryd.ntmps47
      go_wp2_with fail
      go_ret
      exact ⟨by rw [HE.out]; rfl, rfl⟩
    · have h2' : ¬ (15 : Int) < (s.size : Int) := by omega
      have HT : Hid (tagB s = (nums s).all alnum) := by show _ = _; simp [tagB]; intro _; omega
      go_enter Tryd.func47, Tryd.ntmps47
      go_wp2_with fail
      go_loopw [14] (fun v wr => wr = w ∧ ∃ k : Nat, k ≤ s.size ∧ v = .int .i64 (k : Int) ∧ Hid (∀ z ∈ (nums s).take k, alnum z = true)) (fun v _ => s.size - (intOf v).toNat)
      case atStart => exact ⟨rfl, 0, Nat.zero_le _, rfl, by intro y hy; simp at hy⟩
      case round =>
        obtain ⟨hwr, k, hk, rfl, HF⟩ := hrel
        subst hwr
        by_cases hlt : k < s.size
        · have hlt' : (k : Int) < (s.size : Int) := by omega
          have hbd := nums_bd s k
          have hki : k < (nums s).length := by rw [nums_len]; exact hlt
          have hat := nums_at s k hlt
          rw [hat] at hbd
          have HA : Hid (∃ h : k < (nums s).length, (nums s)[k] = (s[k].toNat : Int)) := by
            refine ⟨hki, ?_⟩
            have : (nums s).getD k 0 = (nums s)[k] := by simp [List.getD_eq_getElem?_getD, hki]
            rw [← this, hat]
          clear hat hki
          obtain ⟨c, hc⟩ : ∃ c : Int, (s[k].toNat : Int) = c := ⟨_, rfl⟩
          rw [hc] at hbd HA
          go_wp2_with fail
          first | simp only [hc] | skip
          refine (idx_tag c hbd.1 hbd.2 _).mono ?_
          rintro e w1 ⟨j, rfl, HJ, rfl⟩
          cases hal : alnum c with
          | true =>
            have HF2 : Hid (∀ z ∈ (nums s).take (k + 1), alnum z = true) := by
              intro z hz
              obtain ⟨hin, hav⟩ := HA.out
              rw [List.take_succ_eq_append_getElem hin] at hz
              simp only [List.mem_append, List.mem_singleton] at hz
              rcases hz with hz | hz
              · exact HF.out z hz
              · subst hz; rw [hav]; exact hal
            have hj : ¬ j < 0 := by have := HJ.out; rw [hal] at this; simpa using this
            clear HF hal HJ
            go_wp2_with fail
            exact ⟨⟨by first | rfl | trivial, k + 1, by omega, by go_num, HF2⟩, by simp [intOf]; omega⟩
          | false =>
            have HE : Hid (tagB s = false) := by
              show _ = _
              rw [HT.out, ← Bool.not_eq_true]
              intro hall
              obtain ⟨hin, hav⟩ := HA.out
              have := List.all_eq_true.1 hall (nums s)[k] (List.getElem_mem hin)
              rw [hav, hal] at this
              cases this
            have hj : j < 0 := by have := HJ.out; rw [hal] at this; simpa using this
            clear HF hal HT HJ
            go_wp2_with fail
            go_ret
            exact ⟨by rw [HE.out]; rfl, rfl⟩
        · have hge : ¬ (k : Int) < (s.size : Int) := by omega
          have HE : Hid (tagB s = true) := by
            have := HF.out
            rw [List.take_of_length_le (by rw [nums_len]; omega)] at this
            show _ = _
            rw [HT.out]
            exact List.all_eq_true.2 this
          clear HF HT
          go_wp2_with fail
          go_ret
          exact ⟨by rw [HE.out]; rfl, rfl⟩
end Go.Proofs.YtoppdmlmhigogaaDoor
namespace Go.Proofs.YtoppdmlmhigogaaDoor
open Go.ChangeShapes Go.WideShapes Go.ChangeAt Go.RowKit
set_option linter.unusedVariables false
set_option linter.unusedSimpArgs false
/-- Whether numbers and texts are within their bounds. -/
def wthB (f : Fs) (d : Dat) : Bool := d.us.all (fun n => decide (n / 2 ^ (8 * f.wd) = 0)) && (d.ts.take f.tg).all tagB && (d.ts.take (d.ts.length - f.tl)).all (fun s => decide (s.size ≤ 255))
theorem all_cut {α : Type} (l : List α) (p : α → Bool) (k : Nat) (hk : k < l.length) (h : p l[k] = false) : l.all p = false := by
  rw [← Bool.not_eq_true]
  intro hall
  have := List.all_eq_true.1 hall l[k] (List.getElem_mem hk)
  rw [h] at this
  cases this
theorem all_next {α : Type} (l : List α) (p : α → Bool) (k : Nat) (hk : k < l.length) (h : p l[k] = true) (hf : ∀ z ∈ l.take k, p z = true) : ∀ z ∈ l.take (k + 1), p z = true := by
  intro z hz
  rw [List.take_succ_eq_append_getElem hk] at hz
  simp only [List.mem_append, List.mem_singleton] at hz
  rcases hz with hz | hz
  · exact hf z hz
  · subst hz; exact h
set_option maxRecDepth 100000 in
set_option maxHeartbeats 4000000 in
theorem within_any (f : Fs) (x : DA) (d : Dat) (w : World) (h : DRd w x d) (hwd : f.wd = 0 ∨ f.wd = 1 ∨ f.wd = 2 ∨ f.wd = 4) (htg : f.tg ≤ d.ts.length) (htl : f.tl ≤ d.ts.length) :
    Calls Tryd.prog 34 #[.agg #[.int .i64 f.nn, .int .i64 f.nf, .int .i64 f.nu, .int .i64 f.wd, .int .i64 f.nt, .int .i64 f.tg, .int .i64 f.tl, .int .i64 f.nr], .agg #[.slice x.p1.a x.p1.n x.p1.c, .slice x.p2.a x.p2.n x.p2.c, .slice x.p3.a x.p3.n x.p3.c, .slice x.p4.a x.p4.n x.p4.c]] w fun e w' => e = .returned (.bool (wthB f d)) ∧ Hid (Below w.heap.size w w') := by
  have H : Hid (PtSt w ((w.alloc (.cells #[.int .i64 f.nn, .int .i64 f.nf, .int .i64 f.nu, .int .i64 f.wd, .int .i64 f.nt, .int .i64 f.tg, .int .i64 f.tl, .int .i64 f.nr] 72)).alloc (.cells #[.slice x.p1.a x.p1.n x.p1.c, .slice x.p2.a x.p2.n x.p2.c, .slice x.p3.a x.p3.n x.p3.c, .slice x.p4.a x.p4.n x.p4.c] 35)) w.heap.size f x d) := PtSt.new w f x d h
  have l2 := h.h2.len
  have l3 := h.h3.len
  have HC : Hid (x.p2.n ≤ 9223372036854775807 ∧ x.p3.n ≤ x.p3.c ∧ x.p3.c ≤ 9223372036854775807) := ⟨Nat.le_trans h.h2.cap.1 h.h2.cap.2, h.h3.cap.1, h.h3.cap.2⟩
  clear h
  obtain ⟨nn, nf, nu, wd, nt, tg, tl, nr⟩ := f
  obtain ⟨⟨a1, n1, k1⟩, ⟨a2, n2, k2⟩, ⟨a3, n3, k3⟩, ⟨a4, n4, k4⟩⟩ := x
  simp only at H l2 l3 HC hwd htg htl ⊢
  have hk3 := HC.out.2
  have hn2 := HC.out.1
  have htg' : tg ≤ n3 := by omega
  have htl' : tl ≤ n3 := by omega
  have HW : Hid (wthB ⟨nn, nf, nu, wd, nt, tg, tl, nr⟩ d = (d.us.all (fun n => decide (n / 2 ^ (8 * wd) = 0)) && (d.ts.take tg).all tagB && (d.ts.take (n3 - tl)).all (fun s => decide (s.size ≤ 255)))) := by
    show _ = _
    unfold wthB
    rw [l3]
  have HL : Hid (d.us.length = n2 ∧ d.ts.length = n3) := ⟨l2, l3⟩
  obtain ⟨R, hR⟩ : ∃ R, wthB ⟨nn, nf, nu, wd, nt, tg, tl, nr⟩ d = R := ⟨_, rfl⟩
  rw [hR] at HW ⊢
  clear hR l2 l3 htg htl HC
  go_enter Tryd.func34, Tryd.ntmps34
  go_upto_region 1 with fail
  generalize ((w.alloc (.cells #[.int .i64 nn, .int .i64 nf, .int .i64 nu, .int .i64 wd, .int .i64 nt, .int .i64 tg, .int .i64 tl, .int .i64 nr] 72)).alloc (.cells #[.slice a1 n1 k1, .slice a2 n2 k2, .slice a3 n3 k3, .slice a4 n4 k4] 35)) = W1 at *
  obtain ⟨b, hb⟩ : ∃ b, b = w.heap.size := ⟨_, rfl⟩
  rw [← hb] at H ⊢
  have Hb : Hid (b = w.heap.size) := hb
  clear hb
  have s3 := H.out.1.2.2.2.1
  have c1 := H.out.2.1.2.1
  simp only at s3 c1
  go_wp2_with fail
  go_loopw [14] (fun v wr => wr = W1 ∧ ∃ k : Nat, k ≤ n2 ∧ v = .int .i64 (k : Int) ∧ Hid (∀ z ∈ d.us.take k, decide (z / 2 ^ (8 * wd) = 0) = true)) (fun v _ => n2 - (intOf v).toNat)
  case atStart => exact ⟨rfl, 0, Nat.zero_le _, rfl, by intro y hy; simp at hy⟩
  case round =>
    obtain ⟨hwr, k, hk, rfl, HF⟩ := hrel
    subst hwr
    by_cases hlt : k < n2
    · have hlt' : (k : Int) < (n2 : Int) := by omega
      have hki : k < d.us.length := by rw [HL.out.1]; exact hlt
      obtain ⟨B2, o2, ha2, hl2, hz2⟩ := H.out.2.2.1.h2.at k hki
      have hub := H.out.2.2.1.h2.bd _ (List.getElem_mem hki)
      simp only at ha2
      subst ha2
      have HN : Hid (decide (d.us[k] / 2 ^ (8 * wd) = 0) = true → ∀ z ∈ d.us.take (k + 1), decide (z / 2 ^ (8 * wd) = 0) = true) := fun hh => all_next d.us _ k hki hh HF.out
      have HX : Hid (decide (d.us[k] / 2 ^ (8 * wd) = 0) = false → R = false) := by
        intro hh
        have := HW.out
        rw [all_cut d.us (fun n => decide (n / 2 ^ (8 * wd) = 0)) k hki hh] at this
        simpa using this
      clear HF
      generalize d.us[k] = u at *
      have hq : ∀ m : Nat, ((u : Int) / ((2 ^ m : Nat) : Int)) = ((u / 2 ^ m : Nat) : Int) := by intro m; simp
      by_cases hu : u / 2 ^ (8 * wd) = 0
      · have HF2 := HN.out (decide_eq_true hu)
        have HF3 : Hid (∀ z ∈ d.us.take (k + 1), decide (z / 2 ^ (8 * wd) = 0) = true) := HF2
        clear HF2 HN HX
        rcases hwd with e | e | e | e
        all_goals
          subst e
          simp at hu
          go_wp2_with fail
          exact ⟨⟨by first | rfl | trivial, k + 1, by omega, by go_num, HF3⟩, by simp [intOf]; omega⟩
      · have HE : Hid (R = false) := HX.out (decide_eq_false hu)
        clear HN HX HW
        rcases hwd with e | e | e | e
        all_goals
          subst e
          simp at hu
          first
          | omega
          | (go_wp2_with fail
             go_ret
             exact ⟨by rw [HE.out]; rfl, H.out.2.2.2⟩)
    · have hge : ¬ (k : Int) < (n2 : Int) := by omega
      have HU : Hid (d.us.all (fun n => decide (n / 2 ^ (8 * wd) = 0)) = true) := by
        have := HF.out
        rw [List.take_of_length_le (by rw [HL.out.1]; omega)] at this
        exact List.all_eq_true.2 this
      clear HF
      have s5 := H.out.1.2.2.2.2.2.1
      have c2 := H.out.2.1.2.2.1
      simp only at s5 c2
      clear s3 c1 hwd
      go_wp2_with fail
      obtain ⟨wz, hz⟩ : ∃ z, z = wr := ⟨_, rfl⟩
      subst hz
      go_loopw [31] (fun v wr => wr = wz ∧ ∃ k : Nat, k ≤ tg ∧ v = .int .i64 (k : Int) ∧ Hid (∀ z ∈ (d.ts.take tg).take k, tagB z = true)) (fun v _ => tg - (intOf v).toNat)
      case atStart => exact ⟨rfl, 0, Nat.zero_le _, rfl, by intro y hy; simp at hy⟩
      case round =>
        obtain ⟨hwr, j, hj, rfl, HF⟩ := hrel
        subst hwr
        by_cases hjt : j < tg
        · have hjt' : (j : Int) < (tg : Int) := by omega
          have hji : j < d.ts.length := by rw [HL.out.2]; omega
          have hjj : j < (d.ts.take tg).length := by rw [List.length_take]; omega
          obtain ⟨B3, o3, ha3, hl3, hy3⟩ := H.out.2.2.1.h3.rd.at j hji
          have hsz := H.out.2.2.1.h3.z63 _ (List.getElem_mem hji)
          simp only at ha3
          subst ha3
          have hjs : (d.ts.take tg)[j] = d.ts[j] := by simp
          have HN : Hid (tagB d.ts[j] = true → ∀ z ∈ (d.ts.take tg).take (j + 1), tagB z = true) := fun hh => all_next (d.ts.take tg) tagB j hjj (by rw [hjs]; exact hh) HF.out
          have HX : Hid (tagB d.ts[j] = false → R = false) := by
            intro hh
            have := HW.out
            rw [all_cut (d.ts.take tg) tagB j hjj (by rw [hjs]; exact hh)] at this
            simpa using this
          clear HF hjs hjj
          generalize d.ts[j] = s at *
          go_wp2_with fail
          refine (istag_any s hsz _).mono ?_
          rintro e Wx ⟨rfl, rfl⟩
          cases htb : tagB s with
          | true =>
            have HF2 : Hid (∀ z ∈ (d.ts.take tg).take (j + 1), tagB z = true) := HN.out htb
            clear HN HX htb
            go_wp2_with fail
            exact ⟨⟨by first | rfl | trivial, j + 1, by omega, by go_num, HF2⟩, by simp [intOf]; omega⟩
          | false =>
            have HE : Hid (R = false) := HX.out htb
            clear HN HX htb
            go_wp2_with fail
            go_ret
            exact ⟨by rw [HE.out]; rfl, H.out.2.2.2⟩
        · have hge2 : ¬ (j : Int) < (tg : Int) := by omega
          have HT : Hid ((d.ts.take tg).all tagB = true) := by
            have := HF.out
            rw [List.take_of_length_le (by rw [List.length_take]; omega)] at this
            exact List.all_eq_true.2 this
          clear HF
          have s6 := H.out.1.2.2.2.2.2.2.1
          simp only at s6
          obtain ⟨m, hm⟩ : ∃ m : Nat, m = n3 - tl := ⟨_, rfl⟩
          have hmi : (n3 : Int) - (tl : Int) = (m : Int) := by omega
          have hmw : IntKind.i64.wrap ((n3 : Int) - (tl : Int)) = (m : Int) := by rw [hmi, IntKind.wrap_i64]; omega
          have HM : Hid (m = n3 - tl) := hm
          have hmn : m ≤ n3 := by omega
          clear hm hmi s5
          go_wp2_with fail
          obtain ⟨wy, hz⟩ : ∃ z, z = wr := ⟨_, rfl⟩
          subst hz
          go_loopw [49] (fun v wr => wr = wy ∧ ∃ k : Nat, k ≤ m ∧ v = .int .i64 (k : Int) ∧ Hid (∀ z ∈ (d.ts.take m).take k, decide (z.size ≤ 255) = true)) (fun v _ => m - (intOf v).toNat)
          case atStart => exact ⟨rfl, 0, Nat.zero_le _, rfl, by intro y hy; simp at hy⟩
          case round =>
            obtain ⟨hwr, i, hi, rfl, HF⟩ := hrel
            subst hwr
            by_cases hit : i < m
            · have hit' : (i : Int) < (m : Int) := by omega
              have hii : i < d.ts.length := by rw [HL.out.2]; omega
              have hij : i < (d.ts.take m).length := by rw [List.length_take]; omega
              obtain ⟨B3, o3, ha3, hl3, hy3⟩ := H.out.2.2.1.h3.rd.at i hii
              simp only at ha3
              subst ha3
              have his : (d.ts.take m)[i] = d.ts[i] := by simp
              by_cases hz : (255 : Int) < (d.ts[i].size : Int)
              · have HE : Hid (R = false) := by
                  have := HW.out
                  show R = false
                  rw [← HM.out, all_cut (d.ts.take m) (fun s => decide (s.size ≤ 255)) i hij (by rw [his]; exact decide_eq_false (by omega))] at this
                  simpa using this
                clear HF HW
                generalize d.ts[i] = s at *
                go_wp2_with fail
                go_ret
                exact ⟨by rw [HE.out]; rfl, H.out.2.2.2⟩
              · have HF2 : Hid (∀ z ∈ (d.ts.take m).take (i + 1), decide (z.size ≤ 255) = true) := all_next (d.ts.take m) (fun z => decide (z.size ≤ 255)) i hij (by rw [his]; exact decide_eq_true (by omega)) HF.out
                clear HF his
                generalize d.ts[i] = s at *
                go_wp2_with fail
                exact ⟨⟨by first | rfl | trivial, i + 1, by omega, by go_num, HF2⟩, by simp [intOf]; omega⟩
            · have hge3 : ¬ (i : Int) < (m : Int) := by omega
              have HE : Hid (R = true) := by
                have h1 := HF.out
                rw [List.take_of_length_le (by rw [List.length_take]; omega)] at h1
                have h2 := HW.out
                rw [HU.out, HT.out, ← HM.out, List.all_eq_true.2 h1] at h2
                show R = true
                simpa using h2
              clear HF HW
              go_wp2_with fail
              go_ret
              exact ⟨by rw [HE.out]; rfl, H.out.2.2.2⟩
end Go.Proofs.YtoppdmlmhigogaaDoor
namespace Go.Proofs.YtoppdmlmhigogaaDoor
open Go.ChangeShapes Go.WideShapes Go.ChangeAt Go.RowKit
set_option linter.unusedVariables false
set_option linter.unusedSimpArgs false
theorem sum_snoc' (l : List Nat) (n : Nat) : (l ++ [n]).sum = l.sum + n := by simp
theorem sum_take' (l : List Nat) (k : Nat) : (l.take k).sum ≤ l.sum := by
  induction l generalizing k with
  | nil => simp
  | cons x l ih =>
    cases k with
    | zero => simp
    | succ k => simp; exact ih k
/-- What names and texts add up to. -/
def nsum (d : Dat) : Nat := (d.ns.map nsz).sum
def tz (s : ByteArray) : Nat := 1 + s.size
def tsum (d : Dat) : Nat := (d.ts.map tz).sum
/-- How many bytes data have, by fields. -/
def pszI (f : Fs) (d : Dat) : Int := ((f.wd * d.us.length : Nat) : Int) + (d.raw.length : Int) - (f.tl : Int) + (nsum d : Int) + (tsum d : Int)
set_option maxRecDepth 100000 in
set_option maxHeartbeats 4000000 in
theorem psize5_any (f : Fs) (x : DA) (d : Dat) (w : World) (h : DRd w x d) (htl : f.tl ≤ 1) (hB : f.wd * d.us.length + d.raw.length + nsum d + tsum d ≤ 1000000000000000) :
    Calls Tryd.prog 35 #[.agg #[.int .i64 f.nn, .int .i64 f.nf, .int .i64 f.nu, .int .i64 f.wd, .int .i64 f.nt, .int .i64 f.tg, .int .i64 f.tl, .int .i64 f.nr], .agg #[.slice x.p1.a x.p1.n x.p1.c, .slice x.p2.a x.p2.n x.p2.c, .slice x.p3.a x.p3.n x.p3.c, .slice x.p4.a x.p4.n x.p4.c]] w fun e w' => e = .returned (.int .i64 (pszI f d)) ∧ Hid (Below w.heap.size w w') := by
  have H : Hid (PtSt w ((w.alloc (.cells #[.int .i64 f.nn, .int .i64 f.nf, .int .i64 f.nu, .int .i64 f.wd, .int .i64 f.nt, .int .i64 f.tg, .int .i64 f.tl, .int .i64 f.nr] 72)).alloc (.cells #[.slice x.p1.a x.p1.n x.p1.c, .slice x.p2.a x.p2.n x.p2.c, .slice x.p3.a x.p3.n x.p3.c, .slice x.p4.a x.p4.n x.p4.c] 35)) w.heap.size f x d) := PtSt.new w f x d h
  have l1 := h.h1.len
  have l2 := h.h2.len
  have l3 := h.h3.len
  have l4 := h.h4.len
  have hc1 : x.p1.n ≤ 9223372036854775807 := Nat.le_trans h.h1.cap.1 h.h1.cap.2
  have hc3 : x.p3.n ≤ 9223372036854775807 := Nat.le_trans h.h3.cap.1 h.h3.cap.2
  clear h
  obtain ⟨nn, nf, nu, wd, nt, tg, tl, nr⟩ := f
  obtain ⟨⟨a1, n1, k1⟩, ⟨a2, n2, k2⟩, ⟨a3, n3, k3⟩, ⟨a4, n4, k4⟩⟩ := x
  simp only at H l1 l2 l3 l4 hc1 hc3 htl hB ⊢
  obtain ⟨Z, hZ⟩ : ∃ Z, pszI ⟨nn, nf, nu, wd, nt, tg, tl, nr⟩ d = Z := ⟨_, rfl⟩
  rw [hZ]
  obtain ⟨P, hP⟩ : ∃ P, wd * n2 = P := ⟨_, rfl⟩
  have HZ : Hid (Z = (P : Int) + (n4 : Int) - (tl : Int) + (nsum d : Int) + (tsum d : Int)) := by
    show Z = _
    rw [← hZ]
    unfold pszI
    rw [l4, l2, hP]
  have hB' : P + n4 + nsum d + tsum d ≤ 1000000000000000 := by rw [← hP, ← l2, ← l4]; exact hB
  have HL : Hid (d.ns.length = n1 ∧ d.ts.length = n3) := ⟨l1, l3⟩
  have hPi : (wd : Int) * (n2 : Int) = (P : Int) := by rw [← hP]; simp
  clear hZ l1 l2 l3 l4 hP hB
  have w1 : IntKind.i64.wrap ((wd : Int) * (n2 : Int)) = (P : Int) := by rw [hPi, IntKind.wrap_i64]; omega
  have w2 : IntKind.i64.wrap ((P : Int) + (n4 : Int)) = (P : Int) + (n4 : Int) := by rw [IntKind.wrap_i64]; omega
  have w2' : IntKind.i64.wrap ((P : Int) + (n4 : Int) - (tl : Int)) = (P : Int) + (n4 : Int) - (tl : Int) := by rw [IntKind.wrap_i64]; omega
  clear hPi
  go_enter Tryd.func35, Tryd.ntmps35
  go_upto_region 1 with fail
  generalize ((w.alloc (.cells #[.int .i64 nn, .int .i64 nf, .int .i64 nu, .int .i64 wd, .int .i64 nt, .int .i64 tg, .int .i64 tl, .int .i64 nr] 72)).alloc (.cells #[.slice a1 n1 k1, .slice a2 n2 k2, .slice a3 n3 k3, .slice a4 n4 k4] 35)) = W1 at *
  obtain ⟨b, hb⟩ : ∃ b, b = w.heap.size := ⟨_, rfl⟩
  rw [← hb] at H ⊢
  have Hb : Hid (b = w.heap.size) := hb
  clear hb
  have s3 := H.out.1.2.2.2.1
  have s6 := H.out.1.2.2.2.2.2.2.1
  have c0 := H.out.2.1.1
  have c1 := H.out.2.1.2.1
  have c3 := H.out.2.1.2.2.2.1
  simp only at s3 s6 c0 c1 c3
  go_wp2_with fail
  clear s3 s6 c1 c3 w1 w2 w2'
  go_loopw [5, 26] (fun v i wr => wr = W1 ∧ ∃ (k : Nat) (A : Int), k ≤ n1 ∧ i = .int .i64 (k : Int) ∧ v = .int .i64 A ∧ (-1 ≤ A ∧ A ≤ 1000000000000000) ∧ Hid (A = (P : Int) + (n4 : Int) - (tl : Int) + ((((d.ns.map nsz).take k).sum : Nat) : Int))) (fun _ i _ => n1 - (intOf i).toNat)
  case atStart => exact ⟨rfl, 0, (P : Int) + (n4 : Int) - (tl : Int), Nat.zero_le _, rfl, by first | rfl | simp, by omega, by show _ = _; simp⟩
  case round =>
    obtain ⟨hwr, k, A, hk, rfl, rfl, hA, HA⟩ := hrel
    subst hwr
    by_cases hlt : k < n1
    · have hlt' : (k : Int) < (n1 : Int) := by omega
      have hki : k < d.ns.length := by rw [HL.out.1]; exact hlt
      obtain ⟨B1, o1, ha1, hl1, z1, hz1, hr1⟩ := H.out.2.2.1.h1.at k hki
      simp only at ha1
      subst ha1
      have hsum : ((d.ns.map nsz).take (k + 1)).sum = ((d.ns.map nsz).take k).sum + nsz d.ns[k] := by
        rw [List.take_succ_eq_append_getElem (by simp; exact hki), sum_snoc']; simp
      have hle : ((d.ns.map nsz).take (k + 1)).sum ≤ nsum d := sum_take' (d.ns.map nsz) (k + 1)
      have hA2 := HA.out
      have HA2 : Hid (A + (nsz d.ns[k] : Int) = (P : Int) + (n4 : Int) - (tl : Int) + ((((d.ns.map nsz).take (k + 1)).sum : Nat) : Int)) := by show _ = _; omega
      have hb2 : A + (nsz d.ns[k] : Int) ≤ 1000000000000000 := by have := HA2.out; omega
      have KS : Hid (∀ W, W = wr → Calls Tryd.prog 25 #[.slice z1.a z1.n z1.c] W fun e w' => e = .returned (.int .i64 (nsz d.ns[k])) ∧ w' = W) := by
        intro W e
        subst e
        exact psize_eq z1.a z1.n z1.c d.ns[k] W hr1.rd hr1.len (by omega)
      clear hsum hle hA2 hr1 HA
      generalize nsz d.ns[k] = q at *
      generalize z1.a = za at *
      generalize z1.n = zn at *
      generalize z1.c = zc at *
      have w3 : IntKind.i64.wrap (A + (q : Int)) = A + (q : Int) := by rw [IntKind.wrap_i64]; omega
      go_wp2_with fail
      refine (KS.out _ rfl).mono ?_
      rintro e Wx ⟨rfl, rfl⟩
      go_wp2_with fail
      refine ⟨⟨by first | rfl | trivial, k + 1, A + (q : Int), by omega, by go_num, by first | rfl | go_num, by omega, HA2⟩, ?_⟩
      simp [intOf]; omega
    · have hge : ¬ (k : Int) < (n1 : Int) := by omega
      have HA1 : Hid (A = (P : Int) + (n4 : Int) - (tl : Int) + (nsum d : Int)) := by
        have := HA.out
        rwa [List.take_of_length_le (by simp; rw [HL.out.1]; omega)] at this
      clear HA
      have c2 := H.out.2.1.2.2.1
      simp only at c2
      clear c0
      go_wp2_with fail
      obtain ⟨wz, hz⟩ : ∃ z, z = wr := ⟨_, rfl⟩
      subst hz
      go_loopw [5, 38] (fun v i wr => wr = wz ∧ ∃ (j : Nat) (B : Int), j ≤ n3 ∧ i = .int .i64 (j : Int) ∧ v = .int .i64 B ∧ (-1 ≤ B ∧ B ≤ 1000000000000000) ∧ Hid (B = A + ((((d.ts.map tz).take j).sum : Nat) : Int))) (fun _ i _ => n3 - (intOf i).toNat)
      case atStart => exact ⟨rfl, 0, A, Nat.zero_le _, rfl, rfl, hA, by show _ = _; simp⟩
      case round =>
        obtain ⟨hwr, j, B, hj, rfl, rfl, hB2, HBB⟩ := hrel
        subst hwr
        by_cases hjt : j < n3
        · have hjt' : (j : Int) < (n3 : Int) := by omega
          have hji : j < d.ts.length := by rw [HL.out.2]; exact hjt
          obtain ⟨B3, o3, ha3, hl3, hy3⟩ := H.out.2.2.1.h3.rd.at j hji
          simp only at ha3
          subst ha3
          have hsum : ((d.ts.map tz).take (j + 1)).sum = ((d.ts.map tz).take j).sum + (1 + d.ts[j].size) := by
            rw [List.take_succ_eq_append_getElem (by simp; exact hji), sum_snoc']; simp [tz]
          have hle : ((d.ts.map tz).take (j + 1)).sum ≤ tsum d := sum_take' _ (j + 1)
          have hA2 := HBB.out
          have hA3 := HA1.out
          have HB3 : Hid (B + (1 + (d.ts[j].size : Int)) = A + ((((d.ts.map tz).take (j + 1)).sum : Nat) : Int)) := by show _ = _; omega
          have hb3 : B + (1 + (d.ts[j].size : Int)) ≤ 1000000000000000 := by have := HB3.out; omega
          clear hsum hle hA2 hA3 HBB
          obtain ⟨s, hs⟩ : ∃ s, s = d.ts[j] := ⟨_, rfl⟩
          rw [← hs] at HB3 hb3 hy3
          clear hs
          have w4 : IntKind.i64.wrap (1 + (s.size : Int)) = 1 + (s.size : Int) := by rw [IntKind.wrap_i64]; omega
          have w5 : IntKind.i64.wrap (B + (1 + (s.size : Int))) = B + (1 + (s.size : Int)) := by rw [IntKind.wrap_i64]; omega
          go_wp2_with fail
          refine ⟨⟨by first | rfl | trivial, j + 1, B + (1 + (s.size : Int)), by omega, by go_num, by first | rfl | go_num, by omega, HB3⟩, ?_⟩
          simp [intOf]; omega
        · have hge2 : ¬ (j : Int) < (n3 : Int) := by omega
          have HE : Hid (Z = B) := by
            have h1 := HBB.out
            rw [List.take_of_length_le (by simp; rw [HL.out.2]; omega)] at h1
            have h2 := HZ.out
            have h3 := HA1.out
            show Z = B
            have h4 : tsum d = (d.ts.map tz).sum := rfl
            omega
          clear HBB HA1
          go_wp2_with fail
          go_ret
          exact ⟨by rw [HE.out]; rfl, H.out.2.2.2⟩
end Go.Proofs.YtoppdmlmhigogaaDoor
namespace Go.Proofs.YtoppdmlmhigogaaDoor
open Go.ChangeShapes Go.WideShapes Go.ChangeAt Go.RowKit
set_option linter.unusedVariables false
set_option linter.unusedSimpArgs false
theorem dec_wd (wd : Nat) (h : wd = 1 ∨ wd = 2 ∨ wd = 4) (n : Nat) : decide (n / 2 ^ (8 * wd) = 0) = decide (n ≤ most wd) := by
  apply decide_eq_decide.2
  rcases h with rfl | rfl | rfl <;> simp [most] <;> omega
theorem fitB_ge (n : Nat) (c : Int) (h : 0 ≤ c) : fitB n c = decide ((n : Int) = c) := by
  unfold fitB
  rw [if_neg (by omega), if_neg (by omega)]
theorem nil_of {α : Type} {l : List α} (h : (l.length : Int) = 0) : l = [] := List.eq_nil_of_length_eq_zero (by omega)
set_option maxRecDepth 100000 in
set_option maxHeartbeats 1000000 in
theorem fit_eq (t : Nat) (d : Dat) : (cntB (fs t) d && wthB (fs t) d) = fitsB t d := by
  obtain ⟨ns, us, ts, raw⟩ := d
  rw [Bool.eq_iff_iff]
  unfold cntB wthB fitsB
  rcases fs_cases t with ⟨ht, e⟩ | ⟨ht, e⟩ | ⟨ht, e⟩ | ⟨ht, e⟩ | ⟨ht, e⟩ | ⟨ht, e⟩ | ⟨ht, e⟩ | ⟨ht, e⟩ | ⟨ht, e⟩
  · have es' : shp t = ⟨0, 0, 0, 4, 0⟩ := by subst ht; rfl
    have q1 : t ≠ 16 := by omega
    have q2 : t ≠ 257 := by omega
    rw [e, es']
    simp only [fitB_ge _ ((0 : Nat) : Int) (by omega), fitB_ge _ (0 : Int) (by omega), fitB_ge _ ((1 : Nat) : Int) (by omega), fitB_ge _ (4 : Int) (by omega), fitB_ge _ (16 : Int) (by omega), Bool.and_eq_true, Bool.or_eq_true, decide_eq_true_eq, List.all_eq_true]
    constructor
    · rintro ⟨⟨⟨⟨h1, h2⟩, h3⟩, h4⟩, _⟩
      obtain rfl := nil_of h2
      obtain rfl := nil_of h3
      exact ⟨⟨⟨⟨⟨⟨⟨by omega, rfl⟩, .inr rfl⟩, .inl (by omega)⟩, .inr (by omega)⟩, by simp⟩, .inl q1⟩, .inl q2⟩
    · rintro ⟨⟨⟨⟨⟨⟨⟨h1, h2⟩, h3⟩, _⟩, h4⟩, _⟩, _⟩, _⟩
      obtain rfl := List.eq_nil_of_length_eq_zero h2
      obtain rfl := nil_of (l := ts) (by omega)
      exact ⟨⟨⟨⟨by omega, rfl⟩, rfl⟩, by omega⟩, ⟨by simp, by simp⟩, by simp⟩
  · have es' : shp t = ⟨0, 0, 0, 16, 0⟩ := by subst ht; rfl
    have q1 : t ≠ 16 := by omega
    have q2 : t ≠ 257 := by omega
    rw [e, es']
    simp only [fitB_ge _ ((0 : Nat) : Int) (by omega), fitB_ge _ (0 : Int) (by omega), fitB_ge _ ((1 : Nat) : Int) (by omega), fitB_ge _ (4 : Int) (by omega), fitB_ge _ (16 : Int) (by omega), Bool.and_eq_true, Bool.or_eq_true, decide_eq_true_eq, List.all_eq_true]
    constructor
    · rintro ⟨⟨⟨⟨h1, h2⟩, h3⟩, h4⟩, _⟩
      obtain rfl := nil_of h2
      obtain rfl := nil_of h3
      exact ⟨⟨⟨⟨⟨⟨⟨by omega, rfl⟩, .inr rfl⟩, .inl (by omega)⟩, .inr (by omega)⟩, by simp⟩, .inl q1⟩, .inl q2⟩
    · rintro ⟨⟨⟨⟨⟨⟨⟨h1, h2⟩, h3⟩, _⟩, h4⟩, _⟩, _⟩, _⟩
      obtain rfl := List.eq_nil_of_length_eq_zero h2
      obtain rfl := nil_of (l := ts) (by omega)
      exact ⟨⟨⟨⟨by omega, rfl⟩, rfl⟩, by omega⟩, ⟨by simp, by simp⟩, by simp⟩
  · have es' : shp t = ⟨1, 0, 0, 0, 0⟩ := by rcases ht with rfl | rfl | rfl <;> rfl
    have q1 : t ≠ 16 := by omega
    have q2 : t ≠ 257 := by omega
    rw [e, es']
    simp only [fitB_ge _ ((0 : Nat) : Int) (by omega), fitB_ge _ (0 : Int) (by omega), fitB_ge _ ((1 : Nat) : Int) (by omega), fitB_ge _ (4 : Int) (by omega), fitB_ge _ (16 : Int) (by omega), Bool.and_eq_true, Bool.or_eq_true, decide_eq_true_eq, List.all_eq_true]
    constructor
    · rintro ⟨⟨⟨⟨h1, h2⟩, h3⟩, h4⟩, _⟩
      obtain rfl := nil_of h2
      obtain rfl := nil_of h3
      exact ⟨⟨⟨⟨⟨⟨⟨by omega, rfl⟩, .inr rfl⟩, .inl (by omega)⟩, .inr (by omega)⟩, by simp⟩, .inl q1⟩, .inl q2⟩
    · rintro ⟨⟨⟨⟨⟨⟨⟨h1, h2⟩, h3⟩, _⟩, h4⟩, _⟩, _⟩, _⟩
      obtain rfl := List.eq_nil_of_length_eq_zero h2
      obtain rfl := nil_of (l := ts) (by omega)
      exact ⟨⟨⟨⟨by omega, rfl⟩, rfl⟩, by omega⟩, ⟨by simp, by simp⟩, by simp⟩
  · have es' : shp t = ⟨2, 5, 0, 0, 4⟩ := by subst ht; rfl
    have q1 : t ≠ 16 := by omega
    have q2 : t ≠ 257 := by omega
    have hd := dec_wd 4 (by simp)
    rw [e, es']
    simp only [hd, fitB_ge _ ((0 : Nat) : Int) (by omega), fitB_ge _ (0 : Int) (by omega), fitB_ge _ ((1 : Nat) : Int) (by omega), fitB_ge _ ((2 : Nat) : Int) (by omega), fitB_ge _ ((3 : Nat) : Int) (by omega), fitB_ge _ ((5 : Nat) : Int) (by omega), Bool.and_eq_true, Bool.or_eq_true, decide_eq_true_eq, List.all_eq_true]
    constructor
    · rintro ⟨⟨⟨⟨h1, h2⟩, h3⟩, h4⟩, ⟨h5, _⟩, _⟩
      obtain rfl := nil_of h3
      obtain rfl := nil_of h4
      exact ⟨⟨⟨⟨⟨⟨⟨by omega, by omega⟩, .inr rfl⟩, .inl (by omega)⟩, .inr rfl⟩, h5⟩, .inl q1⟩, .inl q2⟩
    · rintro ⟨⟨⟨⟨⟨⟨⟨h1, h2⟩, h3⟩, _⟩, h4⟩, h5⟩, _⟩, _⟩
      obtain rfl := nil_of (l := ts) (by omega)
      obtain rfl := nil_of (l := raw) (by omega)
      exact ⟨⟨⟨⟨by omega, by omega⟩, rfl⟩, rfl⟩, ⟨h5, by simp⟩, by simp⟩
  · have es' : shp t = ⟨1, 1, 0, 0, 2⟩ := by subst ht; rfl
    have q1 : t ≠ 16 := by omega
    have q2 : t ≠ 257 := by omega
    have hd := dec_wd 2 (by simp)
    rw [e, es']
    simp only [hd, fitB_ge _ ((0 : Nat) : Int) (by omega), fitB_ge _ (0 : Int) (by omega), fitB_ge _ ((1 : Nat) : Int) (by omega), fitB_ge _ ((2 : Nat) : Int) (by omega), fitB_ge _ ((3 : Nat) : Int) (by omega), fitB_ge _ ((5 : Nat) : Int) (by omega), Bool.and_eq_true, Bool.or_eq_true, decide_eq_true_eq, List.all_eq_true]
    constructor
    · rintro ⟨⟨⟨⟨h1, h2⟩, h3⟩, h4⟩, ⟨h5, _⟩, _⟩
      obtain rfl := nil_of h3
      obtain rfl := nil_of h4
      exact ⟨⟨⟨⟨⟨⟨⟨by omega, by omega⟩, .inr rfl⟩, .inl (by omega)⟩, .inr rfl⟩, h5⟩, .inl q1⟩, .inl q2⟩
    · rintro ⟨⟨⟨⟨⟨⟨⟨h1, h2⟩, h3⟩, _⟩, h4⟩, h5⟩, _⟩, _⟩
      obtain rfl := nil_of (l := ts) (by omega)
      obtain rfl := nil_of (l := raw) (by omega)
      exact ⟨⟨⟨⟨by omega, by omega⟩, rfl⟩, rfl⟩, ⟨h5, by simp⟩, by simp⟩
  · have es' : shp t = ⟨1, 3, 0, 0, 2⟩ := by subst ht; rfl
    have q1 : t ≠ 16 := by omega
    have q2 : t ≠ 257 := by omega
    have hd := dec_wd 2 (by simp)
    rw [e, es']
    simp only [hd, fitB_ge _ ((0 : Nat) : Int) (by omega), fitB_ge _ (0 : Int) (by omega), fitB_ge _ ((1 : Nat) : Int) (by omega), fitB_ge _ ((2 : Nat) : Int) (by omega), fitB_ge _ ((3 : Nat) : Int) (by omega), fitB_ge _ ((5 : Nat) : Int) (by omega), Bool.and_eq_true, Bool.or_eq_true, decide_eq_true_eq, List.all_eq_true]
    constructor
    · rintro ⟨⟨⟨⟨h1, h2⟩, h3⟩, h4⟩, ⟨h5, _⟩, _⟩
      obtain rfl := nil_of h3
      obtain rfl := nil_of h4
      exact ⟨⟨⟨⟨⟨⟨⟨by omega, by omega⟩, .inr rfl⟩, .inl (by omega)⟩, .inr rfl⟩, h5⟩, .inl q1⟩, .inl q2⟩
    · rintro ⟨⟨⟨⟨⟨⟨⟨h1, h2⟩, h3⟩, _⟩, h4⟩, h5⟩, _⟩, _⟩
      obtain rfl := nil_of (l := ts) (by omega)
      obtain rfl := nil_of (l := raw) (by omega)
      exact ⟨⟨⟨⟨by omega, by omega⟩, rfl⟩, rfl⟩, ⟨h5, by simp⟩, by simp⟩
  · have es' : shp t = ⟨0, 0, -1, 0, 0⟩ := by subst ht; rfl
    have q2 : t ≠ 257 := by omega
    rw [e, es']
    have f1 : fitB ts.length (-1) = decide (0 < ts.length) := by simp [fitB]
    simp only [f1, fitB_ge _ ((0 : Nat) : Int) (by omega), fitB_ge _ (0 : Int) (by omega), Bool.and_eq_true, Bool.or_eq_true, decide_eq_true_eq, List.all_eq_true]
    constructor
    · rintro ⟨⟨⟨⟨h1, h2⟩, h3⟩, h4⟩, _, h5⟩
      obtain rfl := nil_of h2
      obtain rfl := nil_of h4
      exact ⟨⟨⟨⟨⟨⟨⟨by omega, rfl⟩, .inl (by omega)⟩, .inr (by omega)⟩, .inr rfl⟩, by simp⟩, .inr (by simpa using h5)⟩, .inl q2⟩
    · rintro ⟨⟨⟨⟨⟨⟨⟨h1, h2⟩, h3⟩, h6⟩, h4⟩, h5⟩, h7⟩, _⟩
      obtain rfl := List.eq_nil_of_length_eq_zero h2
      obtain rfl := nil_of (l := raw) (by omega)
      exact ⟨⟨⟨⟨by omega, rfl⟩, by omega⟩, rfl⟩, ⟨by simp, by simp⟩, by have := h7.resolve_left (fun hh => hh ht); simpa using this⟩
  · have es' : shp t = ⟨0, 1, 2, 0, 1⟩ := by subst ht; rfl
    have q1 : t ≠ 16 := by omega
    have hd := dec_wd 1 (by simp)
    rw [e, es']
    simp only [hd, fitB_ge _ ((0 : Nat) : Int) (by omega), fitB_ge _ (0 : Int) (by omega), fitB_ge _ ((1 : Nat) : Int) (by omega), fitB_ge _ (2 : Int) (by omega), Bool.and_eq_true, Bool.or_eq_true, decide_eq_true_eq, List.all_eq_true]
    constructor
    · rintro ⟨⟨⟨⟨h1, h2⟩, h3⟩, h4⟩, ⟨h5, h6⟩, h7⟩
      rcases ts with _ | ⟨a, _ | ⟨b, _ | ⟨c, ts⟩⟩⟩
      · simp at h3
      · simp at h3
      · obtain rfl := nil_of h4
        exact ⟨⟨⟨⟨⟨⟨⟨by omega, by omega⟩, .inr rfl⟩, .inl (by omega)⟩, .inr rfl⟩, h5⟩, .inl q1⟩, .inr (h6 a (by simp))⟩
      · simp at h3; omega
    · rintro ⟨⟨⟨⟨⟨⟨⟨h1, h2⟩, h3⟩, _⟩, h4⟩, h5⟩, _⟩, h8⟩
      rcases ts with _ | ⟨a, _ | ⟨b, _ | ⟨c, ts⟩⟩⟩
      · simp at h3
      · simp at h3
      · obtain rfl := nil_of (l := raw) (by omega)
        have hta : tagB a = true := by have := h8.resolve_left (fun hh => hh ht); simpa using this
        have ha : a.size ≤ 255 := by simp [tagB] at hta; omega
        refine ⟨⟨⟨⟨by omega, by omega⟩, by simp⟩, rfl⟩, ⟨h5, by simp [hta]⟩, by simp [ha]⟩
      · simp at h3; omega
  · obtain ⟨h1, h2, h3, h4, h5, h6, h7, h8, h9, h10⟩ := ht
    have es' : shp t = ⟨0, 0, 0, -1, 0⟩ := by unfold shp; simp [h1, h2, h3, h4, h5, h6, h7, h8, h9, h10]
    rw [e, es']
    have f1 : fitB raw.length (-2) = true := by simp [fitB]
    simp only [f1, fitB_ge _ ((0 : Nat) : Int) (by omega), fitB_ge _ (0 : Int) (by omega), Bool.and_eq_true, Bool.or_eq_true, decide_eq_true_eq, List.all_eq_true]
    constructor
    · rintro ⟨⟨⟨⟨i1, i2⟩, i3⟩, i4⟩, _⟩
      obtain rfl := nil_of i2
      obtain rfl := nil_of i3
      exact ⟨⟨⟨⟨⟨⟨⟨by omega, rfl⟩, .inr rfl⟩, .inl (by omega)⟩, .inl (by omega)⟩, by simp⟩, .inl h9⟩, .inl h10⟩
    · rintro ⟨⟨⟨⟨⟨⟨⟨i1, i2⟩, i3⟩, _⟩, i4⟩, _⟩, _⟩, _⟩
      obtain rfl := List.eq_nil_of_length_eq_zero i2
      obtain rfl := nil_of (l := ts) (by omega)
      exact ⟨⟨⟨⟨by omega, rfl⟩, rfl⟩, trivial⟩, ⟨by simp, by simp⟩, by simp⟩
theorem tsum_nby (l : List ByteArray) : (l.map tz).sum = (nby l).length := by
  induction l with
  | nil => simp [nby]
  | cons a l ih =>
    have e : nby (a :: l) = (a.size : Int) :: (nums a ++ nby l) := by simp [nby]
    rw [e]
    simp [ih, nums_len, tz]
    omega
set_option maxRecDepth 100000 in
set_option maxHeartbeats 1000000 in
theorem psz_eq (t : Nat) (d : Dat) (h : fitsB t d = true) : pszI (fs t) d = (sizesF t d : Nat) := by
  obtain ⟨ns, us, ts, raw⟩ := d
  unfold fitsB at h
  unfold pszI sizesF nsum tsum
  simp only [Bool.and_eq_true, Bool.or_eq_true, decide_eq_true_eq] at h ⊢
  obtain ⟨⟨⟨⟨⟨⟨⟨h1, h2⟩, h3⟩, h6⟩, h4⟩, h5⟩, h7⟩, h8⟩ := h
  have key : (shp t).wd = (fs t).wd ∧ ((((fs t).tl = 0 ∧ t ≠ 257) ∧ (t = 16 ∨ ((shp t).nt = 0))) ∨ ((fs t).tl = 1 ∧ t = 257 ∧ (shp t).nt = 2)) := by
    rcases fs_cases t with ⟨ht, e⟩ | ⟨ht, e⟩ | ⟨ht, e⟩ | ⟨ht, e⟩ | ⟨ht, e⟩ | ⟨ht, e⟩ | ⟨ht, e⟩ | ⟨ht, e⟩ | ⟨ht, e⟩
    · subst ht; exact ⟨rfl, .inl ⟨⟨rfl, by omega⟩, .inr rfl⟩⟩
    · subst ht; exact ⟨rfl, .inl ⟨⟨rfl, by omega⟩, .inr rfl⟩⟩
    · rcases ht with rfl | rfl | rfl <;> exact ⟨rfl, .inl ⟨⟨rfl, by omega⟩, .inr rfl⟩⟩
    · subst ht; exact ⟨rfl, .inl ⟨⟨rfl, by omega⟩, .inr rfl⟩⟩
    · subst ht; exact ⟨rfl, .inl ⟨⟨rfl, by omega⟩, .inr rfl⟩⟩
    · subst ht; exact ⟨rfl, .inl ⟨⟨rfl, by omega⟩, .inr rfl⟩⟩
    · subst ht; exact ⟨rfl, .inl ⟨⟨rfl, by omega⟩, .inl rfl⟩⟩
    · subst ht; exact ⟨rfl, .inr ⟨rfl, rfl, rfl⟩⟩
    · obtain ⟨i1, i2, i3, i4, i5, i6, i7, i8, i9, i10⟩ := ht
      have es' : shp t = ⟨0, 0, 0, -1, 0⟩ := by unfold shp; simp [i1, i2, i3, i4, i5, i6, i7, i8, i9, i10]
      rw [e, es']
      exact ⟨rfl, .inl ⟨⟨rfl, i10⟩, .inr rfl⟩⟩
  obtain ⟨kw, kt⟩ := key
  rw [kw, tsum_nby, Nat.mul_comm us.length]
  rcases kt with ⟨⟨k1, k2⟩, k3⟩ | ⟨k1, k2, k3⟩
  · rw [k1]
    rcases k3 with k3 | k3
    · have : tsz t ts = (nby ts).length := by unfold tsz; rw [if_pos k3]
      rw [this]; omega
    · have hz : ts = [] := nil_of (by omega)
      subst hz
      have : tsz t [] = 0 := by unfold tsz; split <;> simp [nby]
      rw [this]; simp [nby]; omega
  · rw [k1]
    rcases ts with _ | ⟨a, _ | ⟨b, _ | ⟨c, ts⟩⟩⟩
    · simp at h3; omega
    · simp at h3; omega
    · have : tsz t [a, b] = a.size + 1 + b.size := by unfold tsz; rw [if_neg (by omega)]; simp [nums_len]
      rw [this]
      have : (nby [a, b]).length = a.size + 1 + (b.size + 1) := by simp [nby, nums_len]; omega
      rw [this]; omega
    · simp at h3; omega
end Go.Proofs.YtoppdmlmhigogaaDoor
namespace Go.Proofs.YtoppdmlmhigogaaDoor
open Go.ChangeShapes Go.WideShapes Go.ChangeAt Go.RowKit
set_option linter.unusedVariables false
set_option linter.unusedSimpArgs false
set_option maxRecDepth 100000 in
set_option maxHeartbeats 1000000 in
theorem pcheck_wide (a : Option Addr) (len cap : Nat) (ss : List ByteArray) (w : World) (hr : RdT w a ss) (hl : ss.length = len) (hm : labsOk ss → nsz ss ≤ 1000000000000000) (hlen : len ≤ 9223372036854775807) (hz : ∀ s ∈ ss, s.size ≤ 9223372036854775807) :
    Calls Tryd.prog 13 #[.slice a len cap] w fun e w' => e = .returned (.int .i64 (nck ss)) ∧ w' = w := by
  have HR : Hid (RdT w a ss ∧ ∀ s ∈ ss, s.size ≤ 9223372036854775807) := ⟨hr, hz⟩
  have HL : Hid (ss.length = len) := hl
  have HS : Hid (labsOk ss → ∀ W, RdT W a ss → Calls Tryd.prog 25 #[.slice a len cap] W fun e w' => e = .returned (.int .i64 (nsz ss)) ∧ w' = W) := fun ho W hW => psize_eq a len cap ss W hW hl (hm ho)
  obtain ⟨T, hT⟩ : ∃ T, nsz ss = T := ⟨_, rfl⟩
  have HT : Hid (nsz ss = T) := hT
  rw [hT] at HS
  clear hr hl hT hz hm
  go_enter Tryd.func13, Tryd.ntmps13
  go_wp2_with fail
  go_loopw [8] (fun x wr => ∃ k : Nat, k ≤ len ∧ x = .int .i64 k ∧ wr = w ∧ Hid (∀ i (h : i < ss.length), i < k → chk ss[i].size = 0)) (fun x _ => len - (intOf x).toNat)
  case atStart => exact ⟨0, Nat.zero_le _, rfl, rfl, fun i _ h => absurd h (by omega)⟩
  case round =>
    obtain ⟨k, hk, rfl, rfl, HK⟩ := hrel
    by_cases hlt : k < len
    · have hlt' : (k : Int) < (len : Int) := by omega
      have hks : k < ss.length := by rw [HL.out]; exact hlt
      obtain ⟨b, o, rfl, hb, hc⟩ := HR.out.1.at k hks
      have HC : Hid (∀ W, Calls Tryd.prog 24 #[.string ss[k]] W fun e w' => e = .returned (.int .i64 (chk ss[k].size)) ∧ w' = W) := fun W => chk_any ss[k] W (HR.out.2 _ (List.getElem_mem hks))
      rcases chk_cases ss[k].size with hk0 | hk4
      · have HN : Hid (∀ i (h : i < ss.length), i < k + 1 → chk ss[i].size = 0) := by
          intro i h hi
          by_cases e : i = k
          · subst e; exact hk0
          · exact HK.out i h (by omega)
        rw [hk0] at HC
        clear hk0 HK
        generalize ss[k] = s at *
        go_wp2_with fail
        refine (HC.out _).mono ?_
        rintro e w1 ⟨rfl, rfl⟩
        go_wp2
        exact ⟨⟨k + 1, by omega, by go_num, trivial, HN⟩, by simp [intOf]; omega⟩
      · have HE : Hid (nck ss = 4) := by
          show nck ss = 4
          unfold nck
          rw [if_neg (fun h => by have := h _ (List.getElem_mem hks); rw [hk4] at this; cases this)]
        rw [hk4] at HC
        clear hk4 HK
        generalize ss[k] = s at *
        go_wp2_with fail
        refine (HC.out _).mono ?_
        rintro e w1 ⟨rfl, rfl⟩
        go_wp2
        go_ret
        exact ⟨by rw [HE.out]; rfl, rfl⟩
    · have hge : (len : Int) ≤ (k : Int) := by omega
      have HO : Hid (labsOk ss) := by
        intro s hs
        obtain ⟨i, hi, rfl⟩ := List.getElem_of_mem hs
        exact HK.out i hi (by have := HL.out; omega)
      by_cases hb : 255 < T
      · have HE : Hid (nck ss = 5) := by show nck ss = 5; unfold nck; rw [if_pos HO.out, HT.out, if_pos hb]
        have hb' : (255 : Int) < (T : Int) := by omega
        clear HK
        go_wp2_with fail
        refine (HS.out HO.out _ HR.out.1).mono ?_
        rintro e w1 ⟨rfl, rfl⟩
        go_wp2
        go_ret
        exact ⟨by rw [HE.out]; rfl, rfl⟩
      · have HE : Hid (nck ss = 0) := by show nck ss = 0; unfold nck; rw [if_pos HO.out, HT.out, if_neg hb]
        have hb' : ¬ (255 : Int) < (T : Int) := by omega
        clear HK
        go_wp2_with fail
        refine (HS.out HO.out _ HR.out.1).mono ?_
        rintro e w1 ⟨rfl, rfl⟩
        go_wp2
        go_ret
        exact ⟨by rw [HE.out]; rfl, rfl⟩
end Go.Proofs.YtoppdmlmhigogaaDoor
namespace Go.Proofs.YtoppdmlmhigogaaDoor
open Go.ChangeShapes Go.WideShapes Go.ChangeAt Go.RowKit
set_option linter.unusedVariables false
set_option linter.unusedSimpArgs false
theorem nsErr_drop' (l : List (List ByteArray)) (k : Nat) (h : ∀ n ∈ l.take k, nck n = 0) : nsErr l = nsErr (l.drop k) := by
  induction l generalizing k with
  | nil => simp
  | cons x l ih =>
    cases k with
    | zero => simp
    | succ k =>
      have h0 : nck x = 0 := h x (by simp)
      simp only [nsErr, List.drop_succ_cons]
      rw [if_pos h0]
      exact ih k (fun n hn => h n (by simp [hn]))
/-- Data within what a machine can add up. -/
structure Bd (d : Dat) : Prop where
  n : d.ns.length ≤ 1000
  nl : ∀ x ∈ d.ns, x.length ≤ 1000000
  u : d.us.length ≤ 1000
  t : tsum d ≤ 1000000000000
  r : d.raw.length ≤ 1000000000000
theorem sum_le (l : List Nat) (m : Nat) (h : ∀ x ∈ l, x ≤ m) : l.sum ≤ l.length * m := by
  induction l with
  | nil => simp
  | cons a l ih =>
    have h1 := h a (by simp)
    have h2 := ih (fun x hx => h x (by simp [hx]))
    simp only [List.sum_cons, List.length_cons, Nat.succ_mul]
    omega
theorem nsz_labs (ss : List ByteArray) (h : labsOk ss) : nsz ss ≤ 64 * ss.length + 1 := by
  have h1 : (nby ss).length ≤ 64 * ss.length := by
    induction ss with
    | nil => simp [nby]
    | cons a l ih =>
      have e : nby (a :: l) = (a.size : Int) :: (nums a ++ nby l) := by simp [nby]
      have h0 := h a (by simp)
      have h2 := ih (fun x hx => h x (by simp [hx]))
      have h3 : a.size ≤ 63 := by unfold chk at h0; split at h0 <;> simp_all <;> omega
      rw [e]
      simp [nums_len]
      omega
  have := nby_len ss
  omega
theorem nsErr_zero {l : List (List ByteArray)} (h : nsErr l = 0) : ∀ n ∈ l, nck n = 0 := by
  induction l with
  | nil => simp
  | cons a l ih =>
    simp only [nsErr] at h
    by_cases ha : nck a = 0
    · rw [if_pos ha] at h
      intro n hn
      rcases List.mem_cons.1 hn with rfl | hn
      · exact ha
      · exact ih h n hn
    · rw [if_neg ha] at h; exact absurd h ha
theorem fs_wd (t : Nat) : (fs t).wd = 0 ∨ (fs t).wd = 1 ∨ (fs t).wd = 2 ∨ (fs t).wd = 4 := by
  rcases fs_cases t with ⟨_, e⟩ | ⟨_, e⟩ | ⟨_, e⟩ | ⟨_, e⟩ | ⟨_, e⟩ | ⟨_, e⟩ | ⟨_, e⟩ | ⟨_, e⟩ | ⟨_, e⟩ <;> rw [e] <;> simp
theorem fs_tl (t : Nat) : (fs t).tl ≤ 1 := by
  rcases fs_cases t with ⟨_, e⟩ | ⟨_, e⟩ | ⟨_, e⟩ | ⟨_, e⟩ | ⟨_, e⟩ | ⟨_, e⟩ | ⟨_, e⟩ | ⟨_, e⟩ | ⟨_, e⟩ <;> rw [e] <;> simp
theorem fs_tags (t : Nat) (d : Dat) (h : cntB (fs t) d = true) : (fs t).tg ≤ d.ts.length ∧ (fs t).tl ≤ d.ts.length := by
  unfold cntB at h
  simp only [Bool.and_eq_true] at h
  obtain ⟨⟨⟨_, _⟩, h⟩, _⟩ := h
  rcases fs_cases t with ⟨_, e⟩ | ⟨_, e⟩ | ⟨_, e⟩ | ⟨_, e⟩ | ⟨_, e⟩ | ⟨_, e⟩ | ⟨_, e⟩ | ⟨_, e⟩ | ⟨_, e⟩ <;> rw [e] at h ⊢ <;> simp
  simp only at h
  rw [fitB_ge _ _ (by omega)] at h
  simp at h
  omega
/-- Data and fields, each in a block of its own, the one at b, the other at g. -/
def PkSt (w W : World) (b g : Nat) (f : Fs) (x : DA) (d : Dat) : Prop := DBox W b x ∧ FBox W g f ∧ DRd W x d ∧ Below w.heap.size w W
theorem PkSt.go {w W W' : World} {b g : Nat} {f : Fs} {x : DA} {d : Dat} (h : PkSt w W b g f x d) (hb : Below W.heap.size W W') : PkSt w W' b g f x d :=
  ⟨h.1.below hb, h.2.1.below hb, h.2.2.1.below hb, h.2.2.2.trans (hb.mono h.2.2.2.size)⟩
theorem PkSt.new {w W : World} {b : Nat} (f : Fs) {x : DA} {d : Dat} (h1 : DBox W b x) (h2 : DRd W x d) (h3 : Below w.heap.size w W) : PkSt w (W.alloc (.cells #[.int .i64 f.nn, .int .i64 f.nf, .int .i64 f.nu, .int .i64 f.wd, .int .i64 f.nt, .int .i64 f.tg, .int .i64 f.tl, .int .i64 f.nr] 72)) b W.heap.size f x d := by
  have hb : Below W.heap.size W (W.alloc (.cells #[.int .i64 f.nn, .int .i64 f.nf, .int .i64 f.nu, .int .i64 f.wd, .int .i64 f.nt, .int .i64 f.tg, .int .i64 f.tl, .int .i64 f.nr] 72)) := (Below.refl _ _).alloc (Nat.le_refl _) _
  exact ⟨h1.below hb, FBox.new W f, h2.below hb, h3.trans (hb.mono h3.size)⟩
set_option maxRecDepth 100000 in
set_option maxHeartbeats 4000000 in
theorem check_any (t : Nat) (x : DA) (d : Dat) (w : World) (h : DRd w x d) (hB : Bd d) :
    Calls Tryd.prog 17 #[.int .u16 t, .agg #[.slice x.p1.a x.p1.n x.p1.c, .slice x.p2.a x.p2.n x.p2.c, .slice x.p3.a x.p3.n x.p3.c, .slice x.p4.a x.p4.n x.p4.c]] w fun e w' => e = .returned (.int .i64 (checkF t d)) ∧ Hid (Below w.heap.size w w') := by
  have hb0 : Below w.heap.size w (w.alloc (.cells #[.slice x.p1.a x.p1.n x.p1.c, .slice x.p2.a x.p2.n x.p2.c, .slice x.p3.a x.p3.n x.p3.c, .slice x.p4.a x.p4.n x.p4.c] 35)) := (Below.refl _ _).alloc (Nat.le_refl _) _
  have H : Hid (DBox (w.alloc (.cells #[.slice x.p1.a x.p1.n x.p1.c, .slice x.p2.a x.p2.n x.p2.c, .slice x.p3.a x.p3.n x.p3.c, .slice x.p4.a x.p4.n x.p4.c] 35)) w.heap.size x ∧ DRd (w.alloc (.cells #[.slice x.p1.a x.p1.n x.p1.c, .slice x.p2.a x.p2.n x.p2.c, .slice x.p3.a x.p3.n x.p3.c, .slice x.p4.a x.p4.n x.p4.c] 35)) x d ∧ Below w.heap.size w (w.alloc (.cells #[.slice x.p1.a x.p1.n x.p1.c, .slice x.p2.a x.p2.n x.p2.c, .slice x.p3.a x.p3.n x.p3.c, .slice x.p4.a x.p4.n x.p4.c] 35))) := ⟨DBox.new w x, h.below hb0, hb0⟩
  have KC : Hid (∀ W, DRd W x d → Calls Tryd.prog 33 #[.agg #[.int .i64 (fs t).nn, .int .i64 (fs t).nf, .int .i64 (fs t).nu, .int .i64 (fs t).wd, .int .i64 (fs t).nt, .int .i64 (fs t).tg, .int .i64 (fs t).tl, .int .i64 (fs t).nr], .agg #[.slice x.p1.a x.p1.n x.p1.c, .slice x.p2.a x.p2.n x.p2.c, .slice x.p3.a x.p3.n x.p3.c, .slice x.p4.a x.p4.n x.p4.c]] W fun e w' => e = .returned (.bool (cntB (fs t) d)) ∧ Hid (Below W.heap.size W w')) := fun W hd => counted_any (fs t) x d W hd
  have KW : Hid (cntB (fs t) d = true → ∀ W, DRd W x d → Calls Tryd.prog 34 #[.agg #[.int .i64 (fs t).nn, .int .i64 (fs t).nf, .int .i64 (fs t).nu, .int .i64 (fs t).wd, .int .i64 (fs t).nt, .int .i64 (fs t).tg, .int .i64 (fs t).tl, .int .i64 (fs t).nr], .agg #[.slice x.p1.a x.p1.n x.p1.c, .slice x.p2.a x.p2.n x.p2.c, .slice x.p3.a x.p3.n x.p3.c, .slice x.p4.a x.p4.n x.p4.c]] W fun e w' => e = .returned (.bool (wthB (fs t) d)) ∧ Hid (Below W.heap.size W w')) := fun hc W hd => within_any (fs t) x d W hd (fs_wd t) (fs_tags t d hc).1 (fs_tags t d hc).2
  have KZ : Hid (cntB (fs t) d = true → wthB (fs t) d = true → nsErr d.ns = 0 → ∀ W, DRd W x d → Calls Tryd.prog 35 #[.agg #[.int .i64 (fs t).nn, .int .i64 (fs t).nf, .int .i64 (fs t).nu, .int .i64 (fs t).wd, .int .i64 (fs t).nt, .int .i64 (fs t).tg, .int .i64 (fs t).tl, .int .i64 (fs t).nr], .agg #[.slice x.p1.a x.p1.n x.p1.c, .slice x.p2.a x.p2.n x.p2.c, .slice x.p3.a x.p3.n x.p3.c, .slice x.p4.a x.p4.n x.p4.c]] W fun e w' => e = .returned (.int .i64 (sizesF t d : Nat)) ∧ Hid (Below W.heap.size W w')) := by
    intro h1 h2 h3 W hd
    have h4 : fitsB t d = true := by rw [← fit_eq, h1, h2]; rfl
    rw [← psz_eq t d h4]
    refine psize5_any (fs t) x d W hd (fs_tl t) ?_
    have h5 : nsum d ≤ 1000 * 255 := by
      have := sum_le (d.ns.map nsz) 255 (by
        intro y hy
        obtain ⟨n, hn, rfl⟩ := List.mem_map.1 hy
        exact (nck_small (nsErr_zero h3 n hn)).1)
      rw [List.length_map] at this
      have h6 : d.ns.length * 255 ≤ 1000 * 255 := Nat.mul_le_mul_right _ hB.n
      unfold nsum
      omega
    have h7 : (fs t).wd * d.us.length ≤ 4 * 1000 := Nat.mul_le_mul (by have := fs_wd t; omega) hB.u
    have h8 := hB.t
    have h9 := hB.r
    omega
  have KO : Hid (∀ W, Calls Tryd.prog 32 #[.int .u16 t] W fun e w' => e = .returned (.agg #[.int .i64 (fs t).nn, .int .i64 (fs t).nf, .int .i64 (fs t).nu, .int .i64 (fs t).wd, .int .i64 (fs t).nt, .int .i64 (fs t).tg, .int .i64 (fs t).tl, .int .i64 (fs t).nr]) ∧ Hid (Below W.heap.size W w')) := fun W => fieldsof_any t W
  have hc1 : x.p1.n ≤ 9223372036854775807 := Nat.le_trans h.h1.cap.1 h.h1.cap.2
  have HL : Hid (d.ns.length = x.p1.n) := h.h1.len
  have HNB : Hid (∀ n ∈ d.ns, labsOk n → nsz n ≤ 1000000000000000) := by
    intro n hn hl
    have h1 := nsz_labs n hl
    have h2 := hB.nl n hn
    omega
  have HQ : Hid (checkF t d = if mayT t then (if (cntB (fs t) d && wthB (fs t) d) then (if nsErr d.ns = 0 then (if 65535 < sizesF t d then 3 else 0) else nsErr d.ns) else 7) else 6) := by
    show _ = _
    rw [fit_eq]
    rfl
  obtain ⟨C, hC⟩ : ∃ C, checkF t d = C := ⟨_, rfl⟩
  rw [hC] at HQ ⊢
  have KH : Hid (∀ W, Calls Tryd.prog 31 #[.int .u16 t] W fun e w' => e = .returned (.bool (mayT t)) ∧ w' = W) := fun W => hasdata_any t W
  clear hC h hb0 hB
  generalize hmay : mayT t = mt at *
  generalize hcnt : cntB (fs t) d = ct at *
  generalize hwth : wthB (fs t) d = wt at *
  generalize (fs t) = f at *
  generalize hsz : sizesF t d = sz at *
  clear hmay hcnt hwth hsz
  obtain ⟨nn, nf, nu, wd, nt, tg, tl, nr⟩ := f
  obtain ⟨⟨a1, n1, k1⟩, ⟨a2, n2, k2⟩, ⟨a3, n3, k3⟩, ⟨a4, n4, k4⟩⟩ := x
  simp only at H KC KW KZ KO hc1 HL ⊢
  go_enter Tryd.func17, Tryd.ntmps17
  go_wp2_with fail
  generalize (w.alloc (.cells #[.slice a1 n1 k1, .slice a2 n2 k2, .slice a3 n3 k3, .slice a4 n4 k4] 35)) = W1 at *
  obtain ⟨b, hb⟩ : ∃ b, b = w.heap.size := ⟨_, rfl⟩
  rw [← hb] at H ⊢
  have Hb : Hid (b = w.heap.size) := hb
  clear hb
  refine (KH.out W1).mono ?_
  rintro e W1 ⟨rfl, rfl⟩
  clear KH
  cases mt with
  | false =>
    have HE : Hid (C = 6) := by show C = 6; have := HQ.out; simpa using this
    clear HQ KC KW KZ KO
    go_wp2_with fail
    go_ret
    exact ⟨by rw [HE.out]; rfl, by have := H.out.2.2; rw [Hb.out] at this; exact this⟩
  | true =>
  go_wp2_with fail
  refine (KO.out W1).mono ?_
  rintro e W2 ⟨rfl, H2⟩
  have H3 : Hid (PkSt w (W2.alloc (.cells #[.int .i64 nn, .int .i64 nf, .int .i64 nu, .int .i64 wd, .int .i64 nt, .int .i64 tg, .int .i64 tl, .int .i64 nr] 72)) b W2.heap.size ⟨nn, nf, nu, wd, nt, tg, tl, nr⟩ ⟨⟨a1, n1, k1⟩, ⟨a2, n2, k2⟩, ⟨a3, n3, k3⟩, ⟨a4, n4, k4⟩⟩ d) := PkSt.new ⟨nn, nf, nu, wd, nt, tg, tl, nr⟩ (H.out.1.below H2.out) (H.out.2.1.below H2.out) (by have := H.out.2.2; rw [Hb.out] at this; exact this.trans (H2.out.mono this.size))
  clear H H2 KO
  go_upto_region 4 with fail
  generalize (W2.alloc (.cells #[.int .i64 nn, .int .i64 nf, .int .i64 nu, .int .i64 wd, .int .i64 nt, .int .i64 tg, .int .i64 tl, .int .i64 nr] 72)) = W3 at *
  generalize W2.heap.size = g at *
  obtain ⟨s0, s1, s2, s3, s4, s5, s6, s7, _⟩ := H3.out.2.1
  have c0 := H3.out.1.1
  have c1 := H3.out.1.2.1
  have c2 := H3.out.1.2.2.1
  have c3 := H3.out.1.2.2.2.1
  simp only at s0 s1 s2 s3 s4 s5 s6 s7 c0 c1 c2 c3
  go_wp2_with fail
  refine (KC.out W3 H3.out.2.2.1).mono ?_
  rintro e W4 ⟨rfl, H4⟩
  have H5 : Hid (PkSt w W4 b g ⟨nn, nf, nu, wd, nt, tg, tl, nr⟩ ⟨⟨a1, n1, k1⟩, ⟨a2, n2, k2⟩, ⟨a3, n3, k3⟩, ⟨a4, n4, k4⟩⟩ d) := H3.out.go H4.out
  clear H3 H4 KC s0 s1 s2 s3 s4 s5 s6 s7 c0 c1 c2 c3
  cases ct with
  | false =>
    have HE : Hid (C = 7) := by show C = 7; have := HQ.out; simpa using this
    clear HQ KZ KW
    go_wp2_with fail
    go_ret
    exact ⟨by rw [HE.out]; rfl, H5.out.2.2.2⟩
  | true =>
  obtain ⟨s0, s1, s2, s3, s4, s5, s6, s7, _⟩ := H5.out.2.1
  have c0 := H5.out.1.1
  have c1 := H5.out.1.2.1
  have c2 := H5.out.1.2.2.1
  have c3 := H5.out.1.2.2.2.1
  simp only at s0 s1 s2 s3 s4 s5 s6 s7 c0 c1 c2 c3
  go_wp2_with fail
  refine (KW.out (by trivial) W4 H5.out.2.2.1).mono ?_
  rintro e W5 ⟨rfl, H4⟩
  have H6 : Hid (PkSt w W5 b g ⟨nn, nf, nu, wd, nt, tg, tl, nr⟩ ⟨⟨a1, n1, k1⟩, ⟨a2, n2, k2⟩, ⟨a3, n3, k3⟩, ⟨a4, n4, k4⟩⟩ d) := H5.out.go H4.out
  clear H5 H4 KW s0 s1 s2 s3 s4 s5 s6 s7 c0 c1 c2 c3
  cases wt with
  | false =>
    have HE : Hid (C = 7) := by show C = 7; have := HQ.out; simpa using this
    clear HQ KZ
    go_wp2_with fail
    go_ret
    exact ⟨by rw [HE.out]; rfl, H6.out.2.2.2⟩
  | true =>
  have HQ2 : Hid (C = if nsErr d.ns = 0 then (if 65535 < sz then 3 else 0) else nsErr d.ns) := by show C = _; have := HQ.out; simpa using this
  clear HQ
  have c0 := H6.out.1.1
  simp only at c0
  go_wp2_with fail
  go_loopw [27] (fun i wr => wr = W5 ∧ ∃ k : Nat, k ≤ n1 ∧ i = .int .i64 (k : Int) ∧ Hid (∀ n ∈ d.ns.take k, nck n = 0)) (fun i _ => n1 - (intOf i).toNat)
  case atStart => exact ⟨rfl, 0, Nat.zero_le _, rfl, by intro n hn; simp at hn⟩
  case round =>
    obtain ⟨hwr, k, hk, rfl, HA⟩ := hrel
    subst hwr
    by_cases hlt : k < n1
    · have hlt' : (k : Int) < (n1 : Int) := by omega
      have hki : k < d.ns.length := by rw [HL.out]; exact hlt
      obtain ⟨B1, o1, ha1, hl1, z1, hz1, hr1⟩ := H6.out.2.2.1.h1.at k hki
      simp only at ha1
      subst ha1
      have HD : Hid (nsErr d.ns = if nck d.ns[k] = 0 then nsErr (d.ns.drop (k + 1)) else nck d.ns[k]) := by
        show _ = _
        rw [nsErr_drop' d.ns k HA.out, List.drop_eq_getElem_cons hki]
        rfl
      have HA2 : Hid (nck d.ns[k] = 0 → ∀ n ∈ d.ns.take (k + 1), nck n = 0) := by
        intro h0 n hn
        rw [List.take_succ_eq_append_getElem hki] at hn
        simp only [List.mem_append, List.mem_singleton] at hn
        rcases hn with hn | rfl
        · exact HA.out n hn
        · exact h0
      have KC : Hid (∀ W, W = wr → Calls Tryd.prog 13 #[.slice z1.a z1.n z1.c] W fun e w' => e = .returned (.int .i64 (nck d.ns[k])) ∧ w' = W) := by
        intro W e
        subst e
        exact pcheck_wide z1.a z1.n z1.c d.ns[k] W hr1.rd hr1.len (HNB.out _ (List.getElem_mem _)) (Nat.le_trans hr1.cap.1 hr1.cap.2) hr1.z63
      clear hr1 HA
      generalize nck d.ns[k] = q at *
      generalize z1.a = za at *
      generalize z1.n = zn at *
      generalize z1.c = zc at *
      by_cases hq : q = 0
      · have hq' : (q != 0) = false := by simp [hq]
        have HA3 := HA2.out hq
        have HA4 : Hid (∀ n ∈ d.ns.take (k + 1), nck n = 0) := HA3
        clear HA3 HA2 HD hq
        go_wp2_with fail
        refine (KC.out _ rfl).mono ?_
        rintro e Wx ⟨rfl, rfl⟩
        go_wp2_with fail
        refine ⟨⟨by first | rfl | trivial, k + 1, by omega, by go_num, HA4⟩, ?_⟩
        simp [intOf]; omega
      · have hq' : (q != 0) = true := by simp [hq]
        have HE : Hid (C = q) := by
          have h1 := HQ2.out
          have h2 := HD.out
          rw [if_neg hq] at h2
          rw [h2, if_neg hq] at h1
          exact h1
        clear HA2 HD hq HQ2
        go_wp2_with fail
        refine (KC.out _ rfl).mono ?_
        rintro e Wx ⟨rfl, rfl⟩
        go_wp2_with fail
        go_ret
        exact ⟨by rw [HE.out]; rfl, H6.out.2.2.2⟩
    · have hge : ¬ (k : Int) < (n1 : Int) := by omega
      have HN : Hid (nsErr d.ns = 0) := by
        have h1 := HA.out
        rw [List.take_of_length_le (by rw [HL.out]; show n1 ≤ k; omega)] at h1
        have := nsErr_drop' d.ns d.ns.length (by rw [List.take_of_length_le (Nat.le_refl _)]; exact h1)
        rw [List.drop_length] at this
        exact this
      have HE : Hid (C = if 65535 < sz then 3 else 0) := by
        have h1 := HQ2.out
        rw [if_pos HN.out] at h1
        exact h1
      have KZ2 : Hid (∀ W, DRd W ⟨⟨a1, n1, k1⟩, ⟨a2, n2, k2⟩, ⟨a3, n3, k3⟩, ⟨a4, n4, k4⟩⟩ d → Calls Tryd.prog 35 #[.agg #[.int .i64 nn, .int .i64 nf, .int .i64 nu, .int .i64 wd, .int .i64 nt, .int .i64 tg, .int .i64 tl, .int .i64 nr], .agg #[.slice a1 n1 k1, .slice a2 n2 k2, .slice a3 n3 k3, .slice a4 n4 k4]] W fun e w' => e = .returned (.int .i64 (sz : Nat)) ∧ Hid (Below W.heap.size W w')) := KZ.out (by trivial) (by trivial) HN.out
      clear HA HN KZ HQ2
      obtain ⟨s0, s1, s2, s3, s4, s5, s6, s7, _⟩ := H6.out.2.1
      have c1 := H6.out.1.2.1
      have c2 := H6.out.1.2.2.1
      have c3 := H6.out.1.2.2.2.1
      simp only at s0 s1 s2 s3 s4 s5 s6 s7 c1 c2 c3
      go_wp2_with fail
      refine (KZ2.out _ H6.out.2.2.1).mono ?_
      rintro e W7 ⟨rfl, H7⟩
      have HB : Hid (Below w.heap.size w W7) := H6.out.2.2.2.trans (H7.out.mono H6.out.2.2.2.size)
      clear H7 H6 s0 s1 s2 s3 s4 s5 s6 s7 c0 c1 c2 c3 KZ2
      by_cases hs : 65535 < sz
      · have hs' : (65535 : Int) < (sz : Int) := by omega
        have HE2 : Hid (C = 3) := by have := HE.out; rw [if_pos hs] at this; exact this
        clear HE
        go_wp2_with fail
        go_ret
        exact ⟨by rw [HE2.out]; rfl, HB.out⟩
      · have hs' : ¬ (65535 : Int) < (sz : Int) := by omega
        have HE2 : Hid (C = 0) := by have := HE.out; rw [if_neg hs] at this; exact this
        clear HE
        go_wp2_with fail
        go_ret
        exact ⟨by rw [HE2.out]; rfl, HB.out⟩
end Go.Proofs.YtoppdmlmhigogaaDoor
namespace Go.Proofs.YtoppdmlmhigogaaDoor
open Go.ChangeShapes Go.WideShapes Go.ChangeAt Go.RowKit
set_option linter.unusedVariables false
set_option linter.unusedSimpArgs false
theorem slice_is_nil (a : Option Addr) (n c : Nat) (w : World) : (binOp .eql 33 (.slice a n c) (.slice none 0 0)).run Tryd.prog w = .ok (.bool a.isNone) w := Lib.run_eql_slice_nil w _ _ _ _ _ _ _ Tryd.underlying33
attribute [local go_sem] slice_is_nil
attribute [local go_sem] slice_is_nil
end Go.Proofs.YtoppdmlmhigogaaDoor
namespace Go.Proofs.YtoppdmlmhigogaaDoor
open Go.ChangeShapes Go.WideShapes Go.ChangeAt Go.RowKit
set_option linter.unusedVariables false
set_option linter.unusedSimpArgs false
attribute [local go_sem] slice_is_nil
theorem new_below (w : World) (o : Obj) : Below w.heap.size w (w.alloc o) := (Below.refl _ _).alloc (Nat.le_refl _) _
def pos : Option Nat → Int
  | some k => k
  | none => 0
attribute [local go_sem] slice_is_nil
end Go.Proofs.YtoppdmlmhigogaaDoor
namespace Go.Proofs.YtoppdmlmhigogaaDoor
open Go.ChangeShapes Go.WideShapes Go.ChangeAt Go.RowKit
set_option linter.unusedVariables false
set_option linter.unusedSimpArgs false
theorem step_append_row {P : Program} {t e : TypeId} {z : Value} {bt : Nat} (T : ElemTy P t e z bt) {w : World} {ops : Array Oper} {o : Oper} {a : Act} {K : Act → World → Prop} {Q : Exit → Act → World → Prop} {E : Prop} (hgd : o.guard = none) (s x : Operand) (tx : TypeId)
    (ho : o.op = .call { callee := .builtin .append, args := #[s, x], argTypes := #[t, tx] }) (B : Nat) (v : Value) (n : Nat) (xs : List Value) (hs : a.eval s = v) (hown : OwnV B w e v n xs)
    (xv : Value) (m : Nat) (news : List Value) (hx : a.eval x = xv) (hsrc : Src P 1 tx xv m news w) (hb : (n + m) * bt ≤ 140737488355328) (h63 : n + m ≤ maxLen) (hB : B ≤ w.heap.size)
    (h : ∀ v' w' xs', Hid (OwnV B w' e v' (n + m) xs') → Hid (xs'.take (n + m) = xs.take n ++ news) → Hid (w.grownBy w' v.ownBlock) → Hid (∀ Q : Value → Prop, Q z → (∀ u ∈ xs, Q u) → (∀ u ∈ news, Q u) → ∀ u ∈ xs', Q u) → K (a.put o.dst v') w') :
    if Region.wanted o (yielded ops a.tmps) = true then Oper.wp P o a w K Q else E := by
  have hw : Region.wanted o (yielded ops a.tmps) = true := by simp [Region.wanted, hgd]
  rw [if_pos hw]
  obtain ⟨v', w', xs', hrun, h2, h3, h4, h5⟩ := run_append_row T w B tx o.type v n xs hown xv m news hsrc hb h63 hB
  unfold Oper.wp execOp
  simp only [ho, resolve, invoke, builtin, Sem.run_bind, Sem.run_pure, Result.andThen_ok, List.map_toArray, List.map_cons, List.map_nil, hs, hx, hrun]
  exact h v' w' xs' h2 h3 h4 h5.1
end Go.Proofs.YtoppdmlmhigogaaDoor
namespace Go.Proofs.YtoppdmlmhigogaaDoor
open Go.ChangeShapes Go.WideShapes Go.ChangeAt Go.RowKit
set_option linter.unusedVariables false
set_option linter.unusedSimpArgs false
abbrev Wd := ByteArray × Bool
end Go.Proofs.YtoppdmlmhigogaaDoor
namespace Go.Proofs.YtoppdmlmhigogaaDoor
open Go.ChangeShapes Go.WideShapes Go.ChangeAt Go.RowKit
set_option linter.unusedVariables false
set_option linter.unusedSimpArgs false
theorem rdv_new (w : World) (xs : List Value) (t : TypeId) : RdV (w.alloc (.cells xs.toArray t)) (some ⟨w.heap.size, 0, none⟩) xs := by
  refine .inr ⟨w.heap.size, 0, rfl, by simp, fun i hi => ?_⟩
  rw [Nat.zero_add]
  exact (show BlkV (w.alloc (.cells xs.toArray t)) w.heap.size t xs from heap_alloc_new _ _).cell i hi
theorem new_t (w : World) (ss : List ByteArray) (n : Nat) (hn : ss.length = n) (hm : n ≤ 1000) (hb : ∀ x ∈ ss, x.size ≤ 9223372036854775807) : TRd (w.alloc (.cells (tv ss).toArray 9)) ⟨some ⟨w.heap.size, 0, none⟩, n, n⟩ ss :=
  ⟨rdv_new w (tv ss) 9, hn, ⟨Nat.le_refl _, by simp only; omega⟩, by simp, hb⟩
theorem new_b (w : World) (zs : List Int) (n : Nat) (hn : zs.length = n) (hm : n ≤ 1000) (hb : ∀ z ∈ zs, 0 ≤ z ∧ z ≤ 255) : BRd (w.alloc (.cells (zs.map (Value.int .u8)).toArray 5)) ⟨some ⟨w.heap.size, 0, none⟩, n, n⟩ zs := by
  refine ⟨⟨?_, hb⟩, hn, ⟨Nat.le_refl _, by simp only; omega⟩, by simp⟩
  have hblk : Blk (w.alloc (.cells (zs.map (Value.int .u8)).toArray 5)) w.heap.size zs := ⟨heap_alloc_new _ _, hb⟩
  exact .inr ⟨w.heap.size, 0, rfl, hblk.lt, fun i hi => by rw [Nat.zero_add]; exact hblk.cell i hi⟩
end Go.Proofs.YtoppdmlmhigogaaDoor
namespace Go.Proofs.YtoppdmlmhigogaaDoor
open Go.ChangeShapes Go.WideShapes Go.ChangeAt Go.RowKit
set_option linter.unusedVariables false
set_option linter.unusedSimpArgs false
/-- The worth of a digit; -1, if it is none. -/
def wv (c : Int) : Int :=
  if Lib.indexByte [48, 49, 50, 51, 52, 53, 54, 55, 56, 57, 97, 98, 99, 100, 101, 102] c.toNat.toUInt8 < Lib.indexByte [48, 49, 50, 51, 52, 53, 54, 55, 56, 57, 65, 66, 67, 68, 69, 70] c.toNat.toUInt8
  then Lib.indexByte [48, 49, 50, 51, 52, 53, 54, 55, 56, 57, 65, 66, 67, 68, 69, 70] c.toNat.toUInt8 else Lib.indexByte [48, 49, 50, 51, 52, 53, 54, 55, 56, 57, 97, 98, 99, 100, 101, 102] c.toNat.toUInt8
/-- The digits. -/
def dg (d : Int) : Int := if d < 10 then 48 + d else 87 + d
theorem dg_bd (d : Int) (h : 0 ≤ d ∧ d < 16) : 48 ≤ dg d ∧ dg d ≤ 102 := by unfold dg; split <;> omega
def okp (l : List Int) (k : Nat) : Prop := 0 ≤ wv (l.getD (2 * k) 0) ∧ 0 ≤ wv (l.getD (2 * k + 1) 0)
theorem call84 (n : Nat) (w : World) (hn : n ≤ 281474976710656) : ∃ cs : Array Value, (callFunc 84 #[.int .i64 n]).run Tryd.prog w = .ok (.value (.slice (some ⟨w.heap.size, 0, none⟩) n cs.size)) (w.drew.drew.alloc (.cells cs 5)) ∧ n ≤ cs.size ∧ cs.size ≤ maxLen := by
  obtain ⟨cs, h1, h2, h3⟩ := Lib.run_makeNoZero (P := Tryd.prog) w #[3] 33 5 Tryd.underlying33 n hn
  refine ⟨cs, ?_, h2, h3 (by simp only [maxLen]; omega)⟩
  rw [run_callFunc_extern (e := Extern.BytealgMakeNoZero.makeNoZero #[3] #[33]) Tryd.func84 (by kernel_rfl) (by kernel_rfl) (by kernel_rfl) (by kernel_rfl) _ w, h1]
  rfl
set_option maxRecDepth 100000 in
theorem grown_end {w : World} {b : Nat} {p : Value} (h : BB w b p (.slice none 0 0)) (cs : Array Value) :
    BB ((w.setCell ⟨b, 1, none⟩ (.slice (some ⟨w.heap.size, 0, none⟩) 0 cs.size)).alloc (.cells cs 5)) b p (.slice (some ⟨w.heap.size, 0, none⟩) 0 cs.size) ∧ ((w.setCell ⟨b, 1, none⟩ (.slice (some ⟨w.heap.size, 0, none⟩) 0 cs.size)).alloc (.cells cs 5)).heap[w.heap.size]? = some (.cells cs 5 (0, 0)) ∧
    w.grownBy ((w.setCell ⟨b, 1, none⟩ (.slice (some ⟨w.heap.size, 0, none⟩) 0 cs.size)).alloc (.cells cs 5)).drew.drew.drew (some b) := by
  have hsz : (w.setCell ⟨b, 1, none⟩ (.slice (some ⟨w.heap.size, 0, none⟩) 0 cs.size)).heap.size = w.heap.size := by simp [World.setCell]
  have hold : ∀ j, j < w.heap.size → ((w.setCell ⟨b, 1, none⟩ (.slice (some ⟨w.heap.size, 0, none⟩) 0 cs.size)).alloc (.cells cs 5)).heap[j]? = (w.setCell ⟨b, 1, none⟩ (.slice (some ⟨w.heap.size, 0, none⟩) 0 cs.size)).heap[j]? := fun j hj => Below.heap_alloc _ _ j (by rw [hsz]; exact hj)
  refine ⟨BB.same (heap_set h 1 _) (hold b h.lt), ?_, ⟨rfl, rfl, rfl, by simp [hsz], fun j hj hne => ?_⟩⟩
  · have := heap_alloc_new (w.setCell ⟨b, 1, none⟩ (.slice (some ⟨w.heap.size, 0, none⟩) 0 cs.size)) (.cells cs 5)
    rw [hsz] at this
    exact this
  · exact (hold j hj).trans (Below.heap_setCell _ _ _ j (fun e => hne (by rw [e])))
set_option maxRecDepth 100000 in
set_option maxHeartbeats 1000000 in
theorem grow_nil (b n : Nat) (p : Value) (w : World) (h : BB w b p (.slice none 0 0)) (hn : n ≤ 281474976710656) :
    Calls Tryd.prog 74 #[.pointer (some ⟨b, 0, none⟩), .int .i64 n] w fun e w' => e = .returned (.tuple #[]) ∧ Hid (∃ cs : Array Value, BB w' b p (.slice (some ⟨w.heap.size, 0, none⟩) 0 cs.size) ∧ w'.heap[w.heap.size]? = some (.cells cs 5 (0, 0)) ∧ n ≤ cs.size ∧ cs.size ≤ maxLen ∧ w.grownBy w' (some b)) := by
  have HB : Hid (BB w b p (.slice none 0 0)) := h
  have hb := h.lt
  have c1 := h.c1
  have f1 := h.fz 1
  obtain ⟨cs, hcall, hc1, hc2⟩ := call84 n w.drew hn
  have hw : IntKind.i64.wrap (n : Int) = (n : Int) := by rw [IntKind.wrap_i64]; omega
  have hw0 : IntKind.i64.wrap 0 = 0 := by rfl
  have hcp : ∀ (W : World) (a : Option Addr) (c : Nat), (Builtin.copy_ #[33, 33] 3 #[.slice a 0 c, .slice none 0 0]).run Tryd.prog W = .ok (.int .i64 0) W := fun W a c =>
    run_copy_none (P := Tryd.prog) W 33 33 3 5 a none 0 c 0 0 Tryd.underlying33 (by kernel_rfl) (by simp)
  clear h
  go_enter Tryd.func74, Tryd.ntmps74
  go_wp2_with fail
  go_region_held3 (fun W => W.cell? ⟨b, 1, none⟩ = some (.slice none 0 0)) (go_keep) (fail)
  clear hcall
  go_wp2
  go_end0
  have hM := grown_end HB.out cs
  exact ⟨rfl, cs, hM.1, hM.2.1, hc1, hc2, hM.2.2⟩
set_option maxRecDepth 100000 in
set_option maxHeartbeats 1000000 in
theorem bgrow (B b n : Nat) (w : World) (h : BB w b (.pointer none) (.slice none 0 0)) (hn : n ≤ 281474976710656) (hB : B ≤ b) :
    Calls Tryd.prog 55 #[.pointer (some ⟨b, 0, none⟩), .int .i64 n] w fun e w' => e = .returned (.tuple #[]) ∧ Hid (BSt B w' b n [] ∧ Below B w w') := by
  have HB : Hid (BB w b (.pointer none) (.slice none 0 0)) := h
  have H2 : Hid (BB (w.setCell ⟨b, 0, none⟩ (.pointer (some ⟨b, 0, none⟩))) b (.pointer (some ⟨b, 0, none⟩)) (.slice none 0 0) ∧ Below B w (w.setCell ⟨b, 0, none⟩ (.pointer (some ⟨b, 0, none⟩)))) := ⟨heap_set h 0 _, (Below.refl _ _).setCell hB _⟩
  clear h
  go_enter Tryd.func55, Tryd.ntmps55
  go_wp2_with fail
  refine (check_fresh b _ _ HB.out).mono ?_
  rintro e w1 ⟨rfl, hw1⟩
  have H3 : Hid (BB w1 b (.pointer (some ⟨b, 0, none⟩)) (.slice none 0 0) ∧ Below B w w1) := by rw [hw1]; exact H2.out
  clear hw1 H2 HB
  have c1 := H3.out.1.c1
  have hw0 : IntKind.i64.wrap 0 = 0 := by rfl
  by_cases h0 : n = 0
  · have hd : decide ((0 : Int) < (n : Int)) = false := by simp; omega
    go_wp2_with fail
    go_quiet (fail)
    go_wp2
    go_end0
    exact ⟨rfl, .inl ⟨h0, rfl, H3.out.1⟩, H3.out.2.trans ⟨rfl, rfl, rfl, Nat.le_refl _, fun _ _ => rfl⟩⟩
  · have hd : decide ((0 : Int) < (n : Int)) = true := by simp; omega
    go_wp2_with fail
    go_quiet (fail)
    have H4 : Hid (BB (w1.drewN nq) b (.pointer (some ⟨b, 0, none⟩)) (.slice none 0 0) ∧ Below B w (w1.drewN nq)) := ⟨H3.out.1, H3.out.2.trans ⟨rfl, rfl, rfl, Nat.le_refl _, fun _ _ => rfl⟩⟩
    clear c1
    generalize w1.drewN nq = W2 at *
    go_wp2_with fail
    refine (grow_nil b n _ _ H4.out.1 hn).mono ?_
    rintro e w3 ⟨rfl, H5⟩
    go_wp2
    go_end0
    obtain ⟨cs, q1, q2, q3, q4, q5⟩ := H5.out
    have hlt := H4.out.1.lt
    have hsz := q5.size
    have hlt3 : W2.heap.size < w3.heap.size := (Array.getElem?_eq_some_iff.1 q2).1
    refine ⟨rfl, .inr ⟨W2.heap.size, cs.size, q1, ⟨rfl, .inr ⟨W2.heap.size, cs.size, cs, rfl, ?_, q2, Nat.zero_le _, q4, by simp, by simp⟩⟩, q3, by omega, hlt3, by omega⟩, ?_⟩
    · have := H4.out.2.size; omega
    · exact below_row H4.out.2 hlt q5 hB
theorem dig_at (d : Int) (h0 : 0 ≤ d) (h1 : d < 16) (w : World) : (Instr.index 9 (.string ⟨#[48, 49, 50, 51, 52, 53, 54, 55, 56, 57, 97, 98, 99, 100, 101, 102]⟩) (.int .u8 d)).run Tryd.prog w = .ok (.int .u8 (dg d)) w := by
  have : d = 0 ∨ d = 1 ∨ d = 2 ∨ d = 3 ∨ d = 4 ∨ d = 5 ∨ d = 6 ∨ d = 7 ∨ d = 8 ∨ d = 9 ∨ d = 10 ∨ d = 11 ∨ d = 12 ∨ d = 13 ∨ d = 14 ∨ d = 15 := by omega
  rcases this with rfl | rfl | rfl | rfl | rfl | rfl | rfl | rfl | rfl | rfl | rfl | rfl | rfl | rfl | rfl | rfl <;> (clear h0 h1; show Sem.run _ _ _ = Result.ok _ _; kernel_rfl)
theorem and15 (c : Int) (h : 0 ≤ c ∧ c ≤ 255) : bits .and .u8 c 15 = c % 16 := by
  obtain ⟨n, rfl⟩ := Int.eq_ofNat_of_zero_le h.1
  have : ∀ m : Nat, m < 256 → bits .and .u8 (m : Int) 15 = (m : Int) % 16 := by decide +kernel
  exact this n (by omega)
/-- The digits of bytes, as bytes. -/
def ub (z : Int) : UInt8 := UInt8.ofNat z.toNat
theorem ub_nat (z : Int) (h : 0 ≤ z ∧ z ≤ 255) : ((ub z).toNat : Int) = z := by simp [ub]; omega
def hexl (zs : List Int) : List UInt8 := zs.flatMap fun z => [ub (dg (z / 16)), ub (dg (z % 16))]
theorem hexl_snoc (zs : List Int) (z : Int) : hexl (zs ++ [z]) = hexl zs ++ [ub (dg (z / 16)), ub (dg (z % 16))] := by simp [hexl]
theorem hexl_len (zs : List Int) : (hexl zs).length = 2 * zs.length := by
  induction zs with
  | nil => rfl
  | cons z zs ih => simp only [hexl, List.flatMap_cons, List.length_append, List.length_cons, List.length_nil] at ih ⊢; omega
theorem cells_snoc (zs : List Int) (z : Int) (h : 0 ≤ z ∧ z ≤ 255) : Lib.byteCells (hexl (zs ++ [z])) = Lib.byteCells (hexl zs) ++ [.int .u8 (dg (z / 16))] ++ [.int .u8 (dg (z % 16))] := by
  have d1 := dg_bd (z / 16) (by omega)
  have d2 := dg_bd (z % 16) (by omega)
  rw [hexl_snoc, Lib.byteCells_append]
  simp [Lib.byteCells, ub_nat _ (show 0 ≤ dg (z / 16) ∧ dg (z / 16) ≤ 255 by omega), ub_nat _ (show 0 ≤ dg (z % 16) ∧ dg (z % 16) ≤ 255 by omega)]
set_option maxRecDepth 100000 in
set_option maxHeartbeats 1000000 in
theorem hex_any (a : Option Addr) (len cap : Nat) (zs : List Int) (w : World) (hr : Rd w a zs) (hl : zs.length = len) (hm : len ≤ 140737488351232) :
    Calls Tryd.prog 83 #[.slice a len cap] w fun e w' => e = .returned (.string ⟨(hexl zs).toArray⟩) ∧ Hid (Below w.heap.size w w') := by
  have HR : Hid (Rd w a zs) := hr
  have HL : Hid (zs.length = len) := hl
  have H0 : Hid (BB (w.alloc (.cells #[.pointer none, .slice none 0 0] 46)) w.heap.size (.pointer none) (.slice none 0 0) ∧ Below w.heap.size w (w.alloc (.cells #[.pointer none, .slice none 0 0] 46))) := ⟨heap_alloc_new _ _, (Below.refl _ _).alloc (Nat.le_refl _) _⟩
  have HG : Hid (∀ W, BB W w.heap.size (.pointer none) (.slice none 0 0) → Calls Tryd.prog 55 #[.pointer (some ⟨w.heap.size, 0, none⟩), .int .i64 (2 * (len : Int))] W fun e w' => e = .returned (.tuple #[]) ∧ Hid (BSt w.heap.size w' w.heap.size (2 * len) [] ∧ Below w.heap.size W w')) := by
    intro W hW
    have := bgrow w.heap.size w.heap.size (2 * len) W hW (by omega) (Nat.le_refl _)
    rw [show ((2 * len : Nat) : Int) = 2 * (len : Int) by omega] at this
    exact this
  clear hr hl
  go_enter Tryd.func83, Tryd.ntmps83
  go_wp2_with fail
  refine (HG.out _ H0.out.1).mono ?_
  rintro e w1 ⟨rfl, H1⟩
  have HS : Hid (BSt w.heap.size w1 w.heap.size (2 * len) (Lib.byteCells (hexl (zs.take 0))) ∧ Below w.heap.size w w1) := ⟨H1.out.1, H0.out.2.trans H1.out.2⟩
  clear H0 H1 HG
  go_wp2_with fail
  go_loopw [12] (fun x wr => ∃ k : Nat, k ≤ len ∧ x = .int .i64 k ∧ Hid (BSt w.heap.size wr w.heap.size (2 * len) (Lib.byteCells (hexl (zs.take k))) ∧ Below w.heap.size w wr)) (fun x _ => len - (intOf x).toNat)
  case atStart => exact ⟨0, Nat.zero_le _, rfl, HS⟩
  case round =>
    obtain ⟨k, hk, rfl, HW⟩ := hrel
    clear HS
    by_cases hlt : k < len
    · have hlt' : (k : Int) < (len : Int) := by omega
      have HRw : Hid (Rd wr a zs) := HR.out.below HW.out.2
      rcases HRw.out.1 with e1 | ⟨b, o, rfl, e1, e2⟩
      · have := HL.out; subst e1; simp at this; omega
      have hc := e2 k (by rw [HL.out]; exact hlt)
      have hb := HRw.out.bd k
      clear e2
      have hzk : zs.take (k + 1) = zs.take k ++ [zs.getD k 0] := take_snoc zs k (by rw [HL.out]; exact hlt)
      rw [List.getD_eq_getElem?_getD] at hb hc hzk
      have HZ : Hid (zs.take (k + 1) = zs.take k ++ [zs[k]?.getD 0] ∧ (zs.take k).length = k) := ⟨hzk, by rw [List.length_take, HL.out]; omega⟩
      clear hzk
      generalize zs[k]?.getD 0 = c at *
      have ha := and15 c hb
      have g1 := dig_at (c / 16) (by omega) (by omega)
      have g2 := dig_at (c % 16) (by omega) (by omega)
      have HC : Hid (Lib.byteCells (hexl (zs.take (k + 1))) = Lib.byteCells (hexl (zs.take k)) ++ [.int .u8 (dg (c / 16))] ++ [.int .u8 (dg (c % 16))] ∧ (Lib.byteCells (hexl (zs.take k))).length = 2 * k) := by
        refine ⟨by rw [HZ.out.1]; exact cells_snoc _ _ hb, ?_⟩
        rw [Lib.byteCells_length, hexl_len, HZ.out.2]
      go_wp2_with fail
      refine (bwrite w.heap.size w.heap.size (2 * len) _ (dg (c / 16)) _ HW.out.1 (by rw [HC.out.2]; omega) (Nat.le_refl _)).mono ?_
      rintro e w2 ⟨rfl, H2⟩
      go_wp2_with fail
      refine (bwrite w.heap.size w.heap.size (2 * len) _ (dg (c % 16)) _ H2.out.1 (by rw [List.length_append, HC.out.2, List.length_singleton]; omega) (Nat.le_refl _)).mono ?_
      rintro e w3 ⟨rfl, H3⟩
      clear g1 g2 ha hc
      go_wp2
      refine ⟨⟨k + 1, by omega, by go_num, ?_, ?_⟩, by simp [intOf]; omega⟩
      · rw [HC.out.1]; exact H3.out.1
      · exact (HW.out.2.trans H2.out.2).trans H3.out.2
    · have HB : Hid (BSt w.heap.size wr w.heap.size (2 * len) (Lib.byteCells (hexl zs)) ∧ (hexl zs).length = 2 * len) := by
        have e : zs.take k = zs := List.take_of_length_le (by rw [HL.out]; omega)
        have := HW.out.1
        rw [e] at this
        exact ⟨this, by rw [hexl_len, HL.out]⟩
      have hge : (len : Int) ≤ (k : Int) := by omega
      generalize hLL : hexl zs = L at *
      have HLL : Hid (hexl zs = L) := hLL
      clear hLL
      go_wp2_with fail
      refine (bstring w.heap.size w.heap.size (2 * len) L _ HB.out.1 HB.out.2 (by have := HB.out.2; omega)).mono ?_
      rintro e w2 ⟨rfl, H2⟩
      go_wp2
      go_ret
      exact ⟨by rw [HLL.out]; rfl, HW.out.2.trans H2.out⟩
end Go.Proofs.YtoppdmlmhigogaaDoor
namespace Go.Proofs.YtoppdmlmhigogaaDoor
open Go.ChangeShapes Go.WideShapes Go.ChangeAt Go.RowKit
set_option linter.unusedVariables false
set_option linter.unusedSimpArgs false
/-- A Builder that has been used; it has no room of its own while nothing stands in it. -/
def GW (B : Nat) (w : World) (b : Nat) (bs : List Value) : Prop :=
  ∃ v, BB w b (.pointer (some ⟨b, 0, none⟩)) v ∧ w.ownsRow B 5 1 v bs.length bs ∧ v.ownBlock ≠ some b ∧ (bs = [] → v = .slice none 0 0)
def G2 (B : Nat) (w : World) (b : Nat) (bs : List Value) : Prop := (BB w b (.pointer none) (.slice none 0 0) ∧ bs = []) ∨ GW B w b bs
set_option maxRecDepth 100000 in
set_option maxHeartbeats 1000000 in
theorem wstringU (B b : Nat) (l : List UInt8) (w : World) (h : G2 B w b (Lib.byteCells l)) (hl : l.length ≤ 9223372036854775807) :
    Calls Tryd.prog 12 #[.pointer (some ⟨b, 0, none⟩)] w fun e w' => e = .returned (.string ⟨l.toArray⟩) ∧ Hid (Below B w w') := by
  rcases h with h | ⟨v, h1, h2, h4, h5⟩
  · exact wstring B b l w (.inl h) hl
  · have hlen := Lib.byteCells_length l
    rcases h2.2 with ⟨hv, h0⟩ | ⟨g, cap, cur, rfl, hBg, hg, hn, hm, hs, hx⟩
    · have hl0 : l = [] := List.eq_nil_of_length_eq_zero (by omega)
      subst hl0
      subst hv
      have c1 := h1.c1
      have s1 : ∀ (W : World) (ts : Array TypeId) (ty : TypeId), (Builtin.unsafeSliceData_ ts ty #[.slice none 0 0]).run Tryd.prog W = .ok (.pointer none) W := fun W ts ty => Lib.run_unsafeSliceData_nil W ts ty 0 0
      have s2 : ∀ (W : World) (ty : TypeId), (Builtin.unsafeString_ #[62, 3] ty #[.pointer none, .int .i64 0]).run Tryd.prog W = .ok (.string .empty) W := fun W ty => Lib.run_unsafeString_none W 62 3 ty none
      clear h1 h0 h2
      go_enter Tryd.func12, Tryd.ntmps12
      go_wp2_with fail
      go_region_held3 (fun W => W.cell? ⟨b, 1, none⟩ = some (.slice none 0 0)) (go_keep) (fail)
      go_wp2
      go_ret
      exact ⟨rfl, (Below.refl _ _).drew⟩
    · have hne : 0 < (Lib.byteCells l).length := by
        apply List.length_pos_iff.2
        intro e
        have := h5 e
        simp at this
      exact bstring B b l.length l w (.inr ⟨g, cap, h1, h2, by omega, fun e => h4 (by rw [e]; rfl), (h2.lt g rfl).2, by omega⟩) rfl hl
end Go.Proofs.YtoppdmlmhigogaaDoor
namespace Go.Proofs.YtoppdmlmhigogaaDoor
open Go.ChangeShapes Go.WideShapes Go.ChangeAt Go.RowKit
set_option linter.unusedVariables false
set_option linter.unusedSimpArgs false
/-- All blocks but a Builder's own and rows of bytes stay. -/
def OffB (b : Nat) (w w' : World) : Prop := ∀ k cs t z, w.heap[k]? = some (.cells cs t z) → t ≠ 5 → k ≠ b → w'.heap[k]? = some (.cells cs t z)
theorem lt_block {W : World} {b : Nat} {o : Obj} (h : W.heap[b]? = some o) : b < W.heap.size := (Array.getElem?_eq_some_iff.1 h).1
theorem OffB.refl (b : Nat) (w : World) : OffB b w w := fun _ _ _ _ h _ _ => h
theorem OffB.trans {b : Nat} {w w1 w2 : World} (h : OffB b w w1) (h' : OffB b w1 w2) : OffB b w w2 := fun k cs t z hk ht hb => h' k cs t z (h k cs t z hk ht hb) ht hb
theorem OffB.of {b : Nat} {w w' : World} (h : Below w.heap.size w w') : OffB b w w' := fun k cs t z hk _ _ => (h.block k (lt_block hk)).trans hk
theorem off_grown {b B n : Nat} {w w2 : World} {v : Value} {bs : List Value} (hown : w.ownsRow B 5 1 v n bs) (hg : w.grownBy w2 v.ownBlock) : OffB b w w2 := by
  intro k cs t z hk ht hkb
  have hne : some k ≠ v.ownBlock := by
    intro e
    obtain ⟨_, hc | ⟨g, cap, cur, hv, _, hg', _⟩⟩ := hown
    · rw [hc.1] at e; simp [Value.ownBlock] at e
    · rw [hv] at e
      have e2 : k = g := by simpa [Value.ownBlock] using e
      subst e2
      rw [hg'] at hk
      injection hk with hk
      injection hk with _ hk _
      exact ht hk.symm
  exact (hg.block k (lt_block hk) hne).trans hk
theorem off_set {b i : Nat} {w : World} {x : Value} : OffB b w (w.setCell ⟨b, i, none⟩ x) := fun k cs t z hk _ hb => (Below.heap_setCell _ _ _ _ hb).trans hk
theorem own_stays {B e k n : Nat} {v : Value} {xs : List Value} {w w' : World} (h : w.ownsRow B e k v n xs) (hb : Below w.heap.size w w') : w'.ownsRow B e k v n xs :=
  h.kept (row := none) ⟨hb.os, hb.tape, hb.output, hb.size, fun j hj _ => hb.block j hj⟩ (by cases v.ownBlock with | none => exact .inl rfl | some j => exact .inr (by simp))
theorem G2.go {B b : Nat} {bs : List Value} {w w' : World} (h : G2 B w b bs) (hb : Below w.heap.size w w') : G2 B w' b bs := by
  rcases h with ⟨h, e⟩ | ⟨v, g1, g2, g3, g4⟩
  · exact .inl ⟨h.same (hb.block _ h.lt), e⟩
  · exact .inr ⟨v, g1.same (hb.block _ g1.lt), own_stays g2 hb, g3, g4⟩
theorem G2.at {B b : Nat} {bs : List Value} {w : World} (h : G2 B w b bs) : ∃ p v, w.heap[b]? = some (.cells #[p, v] 46 (0, 0)) := by
  rcases h with ⟨h, e⟩ | ⟨v, g1, g2, g3, g4⟩
  · exact ⟨_, _, h⟩
  · exact ⟨_, _, g1⟩
theorem bcheckX (B b : Nat) (bs : List Value) (w : World) (h : G2 B w b bs) (hB : B ≤ b) :
    Calls Tryd.prog 48 #[.pointer (some ⟨b, 0, none⟩)] w fun e w' => e = .returned (.tuple #[]) ∧ Hid (GW B w' b bs ∧ Below B w w' ∧ OffB b w w') := by
  rcases h with ⟨h1, rfl⟩ | ⟨v, h1, h3, h4⟩
  · refine (check_fresh b _ w h1).mono ?_
    rintro e w' ⟨rfl, rfl⟩
    refine ⟨rfl, ⟨.slice none 0 0, ?_, World.ownsRow_nil _ _ _ _, by simp [Value.ownBlock], fun _ => rfl⟩, (Below.refl _ _).setCell hB _, off_set⟩
    have := heap_set h1 0 (.pointer (some ⟨b, 0, none⟩))
    simpa [BB] using this
  · refine (check_used b v w h1).mono ?_
    rintro e w' ⟨rfl, rfl⟩
    exact ⟨rfl, ⟨v, h1, h3, h4⟩, Below.refl _ _, OffB.refl _ _⟩
set_option maxRecDepth 100000 in
set_option maxHeartbeats 1000000 in
theorem wstrX (B b : Nat) (bs : List Value) (s : ByteArray) (w : World) (h : G2 B w b bs) (hB : B ≤ b) (hl : bs.length + s.size ≤ 140737488355328) :
    Calls Tryd.prog 36 #[.pointer (some ⟨b, 0, none⟩), .string s] w fun e w' => e = .returned (.tuple #[.int .i64 s.size, .nilIface]) ∧ Hid (GW B w' b (bs ++ Lib.byteCells s.data.toList) ∧ Below B w w' ∧ OffB b w w') := by
  have HG : Hid (G2 B w b bs) := h
  have hcl : (Lib.byteCells s.data.toList).length = s.size := by rw [Lib.byteCells_length]; rfl
  have HCL : Hid ((Lib.byteCells s.data.toList).length = s.size) := hcl
  clear h hcl
  go_enter Tryd.func36, Tryd.ntmps36
  go_wp2_with fail
  refine (bcheckX B b bs _ HG.out hB).mono ?_
  rintro e w1 ⟨rfl, H1⟩
  obtain ⟨v, h1, h2, h4, h5⟩ := H1.out.1
  have HV : Hid (bs = [] → v = .slice none 0 0) := h5
  clear h5
  have HB1 : Hid (Below B w w1 ∧ OffB b w w1) := H1.out.2
  have HB : Hid (BB w1 b (.pointer (some ⟨b, 0, none⟩)) v ∧ w1.ownsRow B 5 1 v bs.length bs) := ⟨h1, h2⟩
  have c1 := h1.c1
  have hlt := h1.lt
  clear h1 h2 H1 HG
  obtain ⟨i5, hi, hz0, hz1, hz2⟩ := info_parts Tryd.info5
  have HI : Hid (Tryd.prog.info? 5 = some i5 ∧ i5.zero = some (.int .u8 0) ∧ i5.size = 1 ∧ i5.bytes = 1) := ⟨hi, hz0, hz1, hz2⟩
  clear hi hz0 hz1 hz2
  go_wp2_with (at_builtin; refine Lib.wpList_append_own_string _ rfl _ _ 33 9 rfl B 5 i5 Tryd.underlying33 Tryd.underlying9 HI.out.1 HI.out.2.1 HI.out.2.2.1 HI.out.2.2.2 v bs.length bs rfl HB.out.2 s rfl (by simp only [maxLen]; omega) (by omega) (by omega) ?_; intro v' w2 hown2 hgr2 hnil; obtain ⟨ao, cc, rfl⟩ := row_shape hown2; have hbk : Hid (w2.heap[b]? = w1.heap[b]?) := (hgr2.block b hlt (fun e => h4 e.symm)); have d1 := (HB.out.1.same hbk.out).c1; have d2 := (HB.out.1.same hbk.out).fz 1; have HG2 : Hid (w1.grownBy w2 v.ownBlock ∧ w2.ownsRow B 5 1 (.slice ao (bs.length + s.size) cc) (bs.length + s.size) (bs ++ Lib.byteCells s.data.toList)) := ⟨hgr2, by rw [← strCells_eq]; exact hown2⟩; have HNIL : Hid (Value.slice ao (bs.length + s.size) cc = .slice none 0 0 ↔ v = .slice none 0 0 ∧ s.size = 0) := hnil; clear hown2 hgr2 hnil)
  go_ret2
  have hb2 := HB.out.1.same hbk.out
  have hrow : ∀ g, v.ownBlock = some g → B ≤ g := fun g hg => (HB.out.2.lt g hg).1
  have hbel : Below B w1 w2 := (Below.refl B w1).grown HG2.out.1 (by omega) hrow
  have hne : (Value.slice ao (bs.length + s.size) cc).ownBlock ≠ some b := by
    intro e
    obtain ⟨_, hc | ⟨g, cap, cur, hv, _, hg, _⟩⟩ := HG2.out.2
    · rw [hc.1] at e; simp [Value.ownBlock] at e
    · rw [hv] at e
      have e2 : g = b := by simpa [Value.ownBlock] using e
      rw [e2] at hg
      have hb3 : w2.heap[b]? = _ := hb2
      rw [hb3] at hg
      injection hg with hg
      injection hg with _ hg _
      exact absurd hg (by decide)
  refine ⟨rfl, ⟨.slice ao (bs.length + s.size) cc, ?_, ?_, hne, fun e => HNIL.out.2 ⟨HV.out (List.append_eq_nil_iff.1 e).1, by have := HCL.out; rw [(List.append_eq_nil_iff.1 e).2] at this; exact this.symm⟩⟩, HB1.out.1.trans (hbel.setCell hB _), HB1.out.2.trans ((off_grown HB.out.2 HG2.out.1).trans off_set)⟩
  · have := heap_set hb2 1 (.slice ao (bs.length + s.size) cc)
    simpa [BB] using this
  · have := row_set HG2.out.2 hne 1 (.slice ao (bs.length + s.size) cc)
    rw [List.length_append, HCL.out]
    exact this
/-- Pieces, one behind the other. -/
def catP (ss : List ByteArray) : List UInt8 := ss.flatMap fun s => s.data.toList
theorem catP_snoc (ss : List ByteArray) (k : Nat) (h : k < ss.length) : catP (ss.take (k + 1)) = catP (ss.take k) ++ ss[k].data.toList := by
  unfold catP
  rw [List.take_succ_eq_append_getElem h, List.flatMap_append]
  simp
theorem catP_le (ss : List ByteArray) (k : Nat) : (catP (ss.take k)).length ≤ (catP ss).length := by
  have e : catP ss = catP (ss.take k) ++ catP (ss.drop k) := by
    unfold catP
    rw [← List.flatMap_append, List.take_append_drop]
  rw [e, List.length_append]
  omega
theorem bcells_app (a b : List UInt8) : Lib.byteCells (a ++ b) = Lib.byteCells a ++ Lib.byteCells b := by simp [Lib.byteCells]
/-- Pieces in a block of their own. -/
def PcT (w : World) (P o : Nat) (ss : List ByteArray) : Prop := ∃ cs z, w.heap[P]? = some (.cells cs 9 z) ∧ ∀ i (h : i < ss.length), w.cell? ⟨P, o + i, none⟩ = some (.string ss[i])
theorem PcT.off {w w' : World} {P o b : Nat} {ss : List ByteArray} (h : PcT w P o ss) (ho : OffB b w w') (hP : P ≠ b) : PcT w' P o ss := by
  obtain ⟨cs, z, h1, h2⟩ := h
  have h3 := ho P cs 9 z h1 (by decide) hP
  refine ⟨cs, z, h3, fun i hi => ?_⟩
  rw [← h2 i hi]
  unfold World.cell?
  rw [h1, h3]
theorem PcT.new (w : World) (ss : List ByteArray) : PcT (w.alloc (.cells (tv ss).toArray 9)) w.heap.size 0 ss := by
  refine ⟨_, _, heap_alloc_new _ _, fun i hi => ?_⟩
  unfold World.cell?
  rw [heap_alloc_new]
  simp [tv, hi]
theorem PcT.lt {w : World} {P o : Nat} {ss : List ByteArray} (h : PcT w P o ss) : P < w.heap.size := by
  obtain ⟨cs, z, h1, _⟩ := h
  exact lt_block h1
set_option maxRecDepth 100000 in
set_option maxHeartbeats 1000000 in
theorem put64_any (B b P o n : Nat) (l : List UInt8) (ss : List ByteArray) (w : World) (h : G2 B w b (Lib.byteCells l)) (hB : B ≤ b) (hP : PcT w P o ss) (hn : ss.length = n) (hn2 : n ≤ 1000) (hl : l.length + (catP ss).length ≤ 140737488355328) :
    Calls Tryd.prog 18 #[.pointer (some ⟨b, 0, none⟩), .slice (some ⟨P, o, none⟩) n n] w fun e w' => e = .returned (.tuple #[]) ∧ Hid (G2 B w' b (Lib.byteCells (l ++ catP ss)) ∧ Below B w w' ∧ OffB b w w') := by
  have hPb : P ≠ b := by
    rintro rfl
    obtain ⟨p, v, hb⟩ := h.at
    obtain ⟨cs, z, h1, _⟩ := hP
    rw [h1] at hb
    injection hb with hb
    injection hb with _ hb _
    exact absurd hb (by decide)
  have HH : Hid (G2 B w b (Lib.byteCells l) ∧ PcT w P o ss ∧ ss.length = n ∧ P ≠ b) := ⟨h, hP, hn, hPb⟩
  have HZ : Hid (∀ k, l.length + (catP (ss.take k)).length ≤ 140737488355328) := fun k => by have := catP_le ss k; omega
  obtain ⟨C, hC⟩ : ∃ C, catP ss = C := ⟨_, rfl⟩
  have HC : Hid (catP ss = C) := hC
  rw [hC]
  clear h hP hn hPb hl hC
  go_enter Tryd.func18, Tryd.ntmps18
  go_wp2_with fail
  go_loopw [8] (fun x wr => ∃ k : Nat, k ≤ n ∧ x = .int .i64 k ∧ Hid (G2 B wr b (Lib.byteCells (l ++ catP (ss.take k))) ∧ Below B w wr ∧ OffB b w wr)) (fun x _ => n - (intOf x).toNat)
  case atStart => exact ⟨0, Nat.zero_le _, rfl, by simpa [catP] using HH.out.1, Below.refl _ _, OffB.refl _ _⟩
  case round =>
    obtain ⟨k, hk, rfl, HI⟩ := hrel
    by_cases hlt : k < n
    · have hlt' : (k : Int) < (n : Int) := by omega
      have hks : k < ss.length := by rw [HH.out.2.2.1]; exact hlt
      have hpc := HH.out.2.1.off HI.out.2.2 HH.out.2.2.2
      have hpl := hpc.lt
      obtain ⟨cs, z, p1, p2⟩ := hpc
      have c1 := p2 k hks
      have HS : Hid (catP (ss.take (k + 1)) = catP (ss.take k) ++ ss[k].data.toList) := catP_snoc ss k hks
      have KW := Lib.hid (fun W (hW : G2 B W b (Lib.byteCells (l ++ catP (ss.take k)))) => wstrX B b (Lib.byteCells (l ++ catP (ss.take k))) ss[k] W hW hB (by
        have h1 := HZ.out (k + 1)
        rw [HS.out] at h1
        rw [Lib.byteCells_length, List.length_append]
        have e : ss[k].data.toList.length = ss[k].size := rfl
        simp only [List.length_append] at h1
        omega))
      rw [← bcells_app, List.append_assoc, ← HS.out] at KW
      clear p1 p2 HS
      generalize ss[k] = s at *
      go_wp2_with fail
      refine (KW.out _ HI.out.1).mono ?_
      rintro e w3 ⟨rfl, H3⟩
      go_wp2_with fail
      exact ⟨⟨k + 1, by omega, by go_num, .inr H3.out.1, HI.out.2.1.trans H3.out.2.1, HI.out.2.2.trans H3.out.2.2⟩, by simp [intOf]; omega⟩
    · have hge : ¬ (k : Int) < (n : Int) := by omega
      have e : catP (ss.take k) = C := by rw [← HC.out, List.take_of_length_le (by rw [HH.out.2.2.1]; omega)]
      rw [e] at HI
      clear e
      go_wp2_with fail
      go_end0
      exact ⟨rfl, HI.out⟩
end Go.Proofs.YtoppdmlmhigogaaDoor
namespace Go.Proofs.YtoppdmlmhigogaaDoor
set_option linter.unusedVariables false
set_option linter.unusedSimpArgs false
abbrev WdZ := ByteArray × Bool
structure En where
  line : Int
  blank : Bool
  ws : List WdZ
def isB (c : UInt8) : Bool := c == 32 || c == 9 || c == 13
/-- What is read so far. -/
structure Cf where
  st : Nat
  line : Nat
  op : Nat
  cur : List UInt8
  el : Int
  bl : Bool
  ws : List WdZ
  es : List En
def headB (r : List UInt8) : Bool := match r with | [] => false | c :: _ => isB c
def q0 (s : List UInt8) : Cf := ⟨0, 1, 0, [], 0, headB s, [], []⟩
end Go.Proofs.YtoppdmlmhigogaaDoor
namespace Go.Proofs.YtoppdmlmhigogaaDoor
open Go.ChangeShapes Go.WideShapes Go.ChangeAt Go.RowKit Go.Sort
set_option linter.unusedVariables false
set_option linter.unusedSimpArgs false
theorem lb_bi (l : List UInt8) : lb (bi l) = ⟨l.toArray⟩ := by
  unfold lb txt bi
  congr 1
  rw [List.map_map]
  congr 1
  conv => rhs; rw [← List.map_id l]
  apply List.map_congr_left
  intro b _
  simp
theorem dec_lb (n : Nat) : (⟨(Lib.decDigits n).toArray⟩ : ByteArray) = lb (xdec n) := by rw [← bi_dec, lb_bi]
theorem nums_xdec (n : Nat) : nums (lb (xdec n)) = xdec n := xnw_nums n
theorem xhex_by (n : Nat) : ∀ c ∈ xhex n, 0 ≤ c ∧ c ≤ 255 := fun c hc => by have := xhex_ok n c hc; unfold xok at this; omega
theorem nums_xhex (n : Nat) : nums (lb (xhex n)) = xhex n := nums_lb _ (xhex_by n)
/-- Texts with a byte between each two are no longer than so. -/
theorem xjoin_len (c : Int) (ps : List (List Int)) (M : Nat) (h : ∀ p ∈ ps, p.length ≤ M) : (xjoin c ps).length ≤ ps.length * (M + 1) := by
  induction ps with
  | nil => simp [xjoin]
  | cons p ps ih =>
    have h1 := h p (by simp)
    have h2 := ih (fun q hq => h q (List.mem_cons_of_mem _ hq))
    cases ps with
    | nil => simp [xjoin]; omega
    | cons q ps =>
      simp only [xjoin, List.length_append, List.length_cons] at h2 ⊢
      rw [Nat.add_mul (ps.length + 1) 1 (M + 1)]
      omega
theorem xdec_le (n : Nat) (h : n < 256) : (xdec n).length ≤ 3 := by
  by_cases h1 : n < 10
  · rw [xdec_small h1]; simp
  · rw [xdec_big h1]
    by_cases h2 : n / 10 < 10
    · rw [xdec_small h2]; simp
    · rw [xdec_big h2, xdec_small (by omega)]; simp
def sht (zs : List Int) : List ByteArray := zs.map fun z => lb (xdec z.toNat)
theorem sht_snoc (zs : List Int) (z : Int) : sht (zs ++ [z]) = sht zs ++ [lb (xdec z.toNat)] := by simp [sht]
theorem sht_nums (zs : List Int) : (sht zs).map nums = zs.map fun z => xdec z.toNat := by
  unfold sht
  rw [List.map_map]
  apply List.map_congr_left
  intro z _
  exact nums_xdec _
def u16s (l : List Nat) : List Value := l.map fun (n : Nat) => Value.int .u16 (n : Int)
def hxt (l : List Nat) : List ByteArray := l.map fun n => lb (xhex n)
theorem hxt_snoc (l : List Nat) (n : Nat) : hxt (l ++ [n]) = hxt l ++ [lb (xhex n)] := by simp [hxt]
theorem hxt_nums (l : List Nat) : (hxt l).map nums = l.map xhex := by
  unfold hxt
  rw [List.map_map]
  apply List.map_congr_left
  intro z _
  exact nums_xhex _
theorem take_snocN (l : List Nat) (k : Nat) (h : k < l.length) : l.take (k + 1) = l.take k ++ [l[k]] := by rw [List.take_add_one, List.getElem?_eq_getElem h]; rfl
theorem join_any (sep : UInt8) (ao : Option Addr) (n c : Nat) (ss : List ByteArray) (w : World) (hr : RdT w ao ss) (hl : ss.length = n) (hc : n ≤ c) (hn : n ≤ 1000000000) (hz : (xjoin sep.toNat (ss.map nums)).length ≤ 140737488355328) :
    Calls Tryd.prog 40 #[.slice ao n c, .string ⟨#[sep]⟩] w fun e w' => e = .returned (.string (lb (xjoin sep.toNat (ss.map nums)))) ∧ Hid (Below w.heap.size w w') := by
  have hj : bi (Lib.join (ss.map (·.data.toList)) [sep]) = xjoin sep.toNat (ss.map nums) := by
    rw [join_x, List.map_map]; rfl
  subst hl
  cases ss with
  | nil =>
    refine (Tryd.strings_Join_none ao c ⟨#[sep]⟩ w).mono ?_
    rintro e w' ⟨rfl, rfl⟩
    exact ⟨rfl, Below.refl _ _⟩
  | cons s ss =>
    obtain ⟨b, o, rfl, hb, _⟩ := hr.at 0 (by simp)
    refine (Tryd.strings_Join b o c (s :: ss) ⟨#[sep]⟩ w (fun j x hx => ?_) hb (by omega) hc (by rw [← bi_len]; show (bi (Lib.join _ [sep])).length ≤ _; rw [hj]; exact hz)).mono ?_
    · obtain ⟨hj1, hj2⟩ := List.getElem?_eq_some_iff.1 hx
      obtain ⟨b', o', e, _, hcell⟩ := hr.at j hj1
      injection e with e
      injection e with e1 e2
      subst e1; subst e2
      rw [hcell, hj2]
    · rintro e w' ⟨rfl, hbel⟩
      refine ⟨?_, hbel⟩
      rw [← hj, lb_bi]
set_option maxRecDepth 100000 in
set_option maxHeartbeats 2000000 in
theorem stext_any (a : Option Addr) (n c : Nat) (zs : List Int) (w : World) (hr : Rd w a zs) (hl : zs.length = n) (hn : n ≤ 1000) (hL : LayT w) :
    Calls Tryd.prog 81 #[.slice a n c] w fun e w' => e = .returned (.string (lb (xjoin 46 (zs.map fun z => xdec z.toNat)))) ∧ Hid (Below w.heap.size w w') := by
  have HR : Hid (Rd w a zs) := hr
  have HLn : Hid (zs.length = n) := hl
  have HL : Hid (LayT w) := hL
  clear hr hl hL
  go_enter Tryd.func81, Tryd.ntmps81
  go_wp2_with fail
  go_loopw [3, 8] (fun v x wr => ∃ k : Nat, k ≤ n ∧ x = .int .i64 k ∧ Hid (∃ ys, OwnT w.heap.size wr v k ys 1000 ∧ ys.take k = sht (zs.take k)) ∧ Hid (Below w.heap.size w wr)) (fun _ x _ => n - (intOf x).toNat)
  case atStart => exact ⟨0, Nat.zero_le _, rfl, ⟨[], OwnT.nil _ _ _, rfl⟩, Below.refl _ _⟩
  case round =>
    obtain ⟨k, hk, rfl, HW, HB⟩ := hrel
    by_cases hlt : k < n
    · have hlt' : (k : Int) < (n : Int) := by omega
      have hkz : k < zs.length := by rw [HLn.out]; exact hlt
      have hbd := HR.out.bd k
      have HT : Hid (sht (zs.take (k + 1)) = sht (zs.take k) ++ [lb (xdec (zs.getD k 0).toNat)]) := by show _ = _; rw [take_snoc zs k hkz, sht_snoc]
      obtain ⟨b, o, rfl, hb, hc⟩ : ∃ b o, a = some ⟨b, o, none⟩ ∧ b < wr.heap.size ∧ wr.cell? ⟨b, o + k, none⟩ = some (.int .u8 (zs.getD k 0)) := by
        rcases (HR.out.below HB.out).1 with h1 | ⟨b, o, h1, h2, h3⟩
        · rw [h1] at hkz; simp at hkz
        · exact ⟨b, o, h1, h2, h3 k hkz⟩
      obtain ⟨u, hu⟩ : ∃ u : Nat, zs.getD k 0 = (u : Int) := ⟨(zs.getD k 0).toNat, by omega⟩
      rw [hu] at hc HT hbd
      simp only [Int.toNat_natCast] at HT
      clear hu
      have hsz : (lb (xdec u)).size ≤ 1000 := by have := xdec_le u (by omega); rw [← nums_len, nums_xdec]; omega
      have K := Lib.hid (fun W hW => itoa_nat u (by omega) W hW)
      rw [dec_lb u] at K
      generalize lb (xdec u) = f at *
      go_wp2_with fail
      refine (K.out _ (HL.out.below HB.out)).mono ?_
      rintro e w2 ⟨rfl, H2⟩
      obtain ⟨ys, hO, hT⟩ := HW.out
      have hnb : Below w2.heap.size w2 (w2.alloc (.cells #[.string f] 9)) := (Below.refl _ _).alloc (Nat.le_refl _) _
      have HO2 : Hid (OwnT w.heap.size (w2.alloc (.cells #[.string f] 9)) u3 k ys 1000 ∧ ys.take k = sht (zs.take k)) := ⟨(hO.below H2.out).below hnb, hT⟩
      have HNB : Hid (Below w2.heap.size w2 (w2.alloc (.cells #[.string f] 9))) := hnb
      have HB3 : Hid (Below w.heap.size w w2) := HB.out.trans (H2.out.mono HB.out.size)
      clear hO hT hnb HW H2 HB
      go_wp2_with (at_builtin; refine wpList_append_T tyT _ rfl _ _ 25 9 Tryd.underlying25 rfl w.heap.size _ k ys 1000 rfl HO2.out.1 (some ⟨w2.heap.size, 0, none⟩) 1 1 [f] rfl (one_rdT w2 f) rfl (by intro s hs; simp at hs; subst hs; exact hsz) (by omega) (Nat.le_trans HB3.out.size HNB.out.size) ?_; intro v' w' ys' hO' hT' hG')
      have hrow := HO2.out.1.1.lt
      refine ⟨⟨k + 1, by omega, by go_num, ⟨ys', hO'.out, ?_⟩, ?_⟩, by simp [intOf]; omega⟩
      · rw [hT'.out, HO2.out.2, HT.out]
      · exact (HB3.out.trans (HNB.out.mono HB3.out.size)).grown hG' (Nat.le_trans HB3.out.size HNB.out.size) hrow
    · have hge : ¬ (k : Int) < (n : Int) := by omega
      have hkn : k = n := by omega
      subst hkn
      obtain ⟨ys, hO, hT⟩ := HW.out
      obtain ⟨ao, rfl, hnil⟩ := hO.shape
      have hle := hO.le
      have HJ : Hid (Calls Tryd.prog 40 #[.slice ao k ys.length, .string ⟨#[46]⟩] wr fun e w' => e = .returned (.string (lb (xjoin 46 (zs.map fun z => xdec z.toNat)))) ∧ Hid (Below wr.heap.size wr w')) := by
        have ht : zs.take k = zs := List.take_of_length_le (by rw [HLn.out]; exact Nat.le_refl _)
        have hr := hO.rd k
        rw [hT, ht] at hr
        have hlen : (sht zs).length = k := by unfold sht; rw [List.length_map, HLn.out]
        have hm := xjoin_len 46 ((sht zs).map nums) 3 (by
          rw [sht_nums]
          intro p hp
          obtain ⟨z, hz, rfl⟩ := List.mem_map.1 hp
          have := HR.out.2 z hz
          exact xdec_le _ (by omega))
        rw [List.length_map, hlen] at hm
        have := join_any 46 ao k ys.length (sht zs) wr hr hlen hle.1 (by omega) (by show (xjoin 46 _).length ≤ _; omega)
        rw [sht_nums] at this
        exact this
      clear hO hT HW hnil hle
      generalize ys.length = yl at *
      obtain ⟨R, hR⟩ : ∃ R, lb (xjoin 46 (zs.map fun z => xdec z.toNat)) = R := ⟨_, rfl⟩
      have HRR : Hid (lb (xjoin 46 (zs.map fun z => xdec z.toNat)) = R) := hR
      rw [hR] at HJ
      clear hR
      go_wp2_with fail
      refine HJ.out.mono ?_
      rintro e w2 ⟨rfl, H2⟩
      have HB3 : Hid (Below w.heap.size w w2) := HB.out.trans (H2.out.mono HB.out.size)
      go_wp2_with fail
      go_ret
      exact ⟨by rw [HRR.out]; rfl, HB3.out⟩
set_option maxRecDepth 100000 in
set_option maxHeartbeats 2000000 in
theorem joined_any (a : Option Addr) (n c : Nat) (l : List Nat) (w : World) (hr : RdV w a (u16s l)) (hl : l.length = n) (hn : n ≤ 8) (hb : ∀ x ∈ l, x < 65536) (hL : LayT w) :
    Calls Tryd.prog 89 #[.slice a n c] w fun e w' => e = .returned (.string (lb (xcol l))) ∧ Hid (Below w.heap.size w w') := by
  have HR : Hid (RdV w a (u16s l)) := hr
  have HLn : Hid (l.length = n ∧ ∀ x ∈ l, x < 65536) := ⟨hl, hb⟩
  have HL : Hid (LayT w) := hL
  clear hr hl hL hb
  go_enter Tryd.func89, Tryd.ntmps89
  go_wp2_with fail
  go_loopw [3, 8] (fun v x wr => ∃ k : Nat, k ≤ n ∧ x = .int .i64 k ∧ Hid (∃ ys, OwnT w.heap.size wr v k ys 1000 ∧ ys.take k = hxt (l.take k)) ∧ Hid (Below w.heap.size w wr)) (fun _ x _ => n - (intOf x).toNat)
  case atStart => exact ⟨0, Nat.zero_le _, rfl, ⟨[], OwnT.nil _ _ _, rfl⟩, Below.refl _ _⟩
  case round =>
    obtain ⟨k, hk, rfl, HW, HB⟩ := hrel
    by_cases hlt : k < n
    · have hlt' : (k : Int) < (n : Int) := by omega
      have hkz : k < l.length := by rw [HLn.out.1]; exact hlt
      have hu : l[k] < 65536 := HLn.out.2 _ (List.getElem_mem hkz)
      have HT : Hid (hxt (l.take (k + 1)) = hxt (l.take k) ++ [lb (xhex l[k])]) := by show _ = _; rw [take_snocN l k hkz, hxt_snoc]
      obtain ⟨b, o, rfl, hb, hc⟩ : ∃ b o, a = some ⟨b, o, none⟩ ∧ b < wr.heap.size ∧ wr.cell? ⟨b, o + k, none⟩ = some (.int .u16 (l[k] : Int)) := by
        rcases HR.out.below HB.out with h1 | ⟨b, o, h1, h2, h3⟩
        · have h9 : (u16s l).length = 0 := by rw [h1]; rfl
          simp only [u16s, List.length_map] at h9
          omega
        · refine ⟨b, o, h1, h2, ?_⟩
          have := h3 k (by simp [u16s]; exact hkz)
          rw [this]; simp [u16s]
      generalize l[k] = u at *
      have hsz : (lb (xhex u)).size ≤ 1000 := by have := xhex_len u hu; rw [← nums_len, nums_xhex]; omega
      have K := Lib.hid (fun W hW => fmt16 u hu W hW)
      generalize lb (xhex u) = f at *
      have hu' : (u : Int) < 65536 := by omega
      go_wp2_with fail
      refine (K.out _ (HL.out.below HB.out)).mono ?_
      rintro e w2 ⟨rfl, H2⟩
      obtain ⟨ys, hO, hT⟩ := HW.out
      have hnb : Below w2.heap.size w2 (w2.alloc (.cells #[.string f] 9)) := (Below.refl _ _).alloc (Nat.le_refl _) _
      have HO2 : Hid (OwnT w.heap.size (w2.alloc (.cells #[.string f] 9)) u3 k ys 1000 ∧ ys.take k = hxt (l.take k)) := ⟨(hO.below H2.out).below hnb, hT⟩
      have HNB : Hid (Below w2.heap.size w2 (w2.alloc (.cells #[.string f] 9))) := hnb
      have HB3 : Hid (Below w.heap.size w w2) := HB.out.trans (H2.out.mono HB.out.size)
      clear hO hT hnb HW H2 HB
      go_wp2_with (at_builtin; refine wpList_append_T tyT _ rfl _ _ 25 9 Tryd.underlying25 rfl w.heap.size _ k ys 1000 rfl HO2.out.1 (some ⟨w2.heap.size, 0, none⟩) 1 1 [f] rfl (one_rdT w2 f) rfl (by intro s hs; simp at hs; subst hs; exact hsz) (by omega) (Nat.le_trans HB3.out.size HNB.out.size) ?_; intro v' w' ys' hO' hT' hG')
      have hrow := HO2.out.1.1.lt
      refine ⟨⟨k + 1, by omega, by go_num, ⟨ys', hO'.out, ?_⟩, ?_⟩, by simp [intOf]; omega⟩
      · rw [hT'.out, HO2.out.2, HT.out]
      · exact (HB3.out.trans (HNB.out.mono HB3.out.size)).grown hG' (Nat.le_trans HB3.out.size HNB.out.size) hrow
    · have hge : ¬ (k : Int) < (n : Int) := by omega
      have hkn : k = n := by omega
      subst hkn
      obtain ⟨ys, hO, hT⟩ := HW.out
      obtain ⟨ao, rfl, hnil⟩ := hO.shape
      have hle := hO.le
      have HJ : Hid (Calls Tryd.prog 40 #[.slice ao k ys.length, .string ⟨#[58]⟩] wr fun e w' => e = .returned (.string (lb (xcol l))) ∧ Hid (Below wr.heap.size wr w')) := by
        have ht : l.take k = l := List.take_of_length_le (by rw [HLn.out.1]; exact Nat.le_refl _)
        have hr := hO.rd k
        rw [hT, ht] at hr
        have hlen : (hxt l).length = k := by unfold hxt; rw [List.length_map, HLn.out.1]
        have hm := xjoin_len 58 ((hxt l).map nums) 4 (by
          rw [hxt_nums]
          intro p hp
          obtain ⟨z, hz, rfl⟩ := List.mem_map.1 hp
          exact (xhex_len _ (HLn.out.2 z hz)).2)
        rw [List.length_map, hlen] at hm
        have := join_any 58 ao k ys.length (hxt l) wr hr hlen hle.1 (by omega) (by show (xjoin 58 _).length ≤ _; omega)
        rw [hxt_nums] at this
        exact this
      clear hO hT HW hnil hle
      generalize ys.length = yl at *
      obtain ⟨R, hR⟩ : ∃ R, lb (xcol l) = R := ⟨_, rfl⟩
      have HRR : Hid (lb (xcol l) = R) := hR
      rw [hR] at HJ
      clear hR
      go_wp2_with fail
      refine HJ.out.mono ?_
      rintro e w2 ⟨rfl, H2⟩
      have HB3 : Hid (Below w.heap.size w w2) := HB.out.trans (H2.out.mono HB.out.size)
      go_wp2_with fail
      go_ret
      exact ⟨by rw [HRR.out]; rfl, HB3.out⟩
end Go.Proofs.YtoppdmlmhigogaaDoor
namespace Go.Proofs.YtoppdmlmhigogaaDoor
open Go.ChangeShapes Go.WideShapes Go.ChangeAt Go.RowKit Go.Sort
set_option linter.unusedVariables false
set_option linter.unusedSimpArgs false
set_option maxRecDepth 100000 in
set_option maxHeartbeats 2000000 in
theorem run_any (l : List Nat) (h8 : l.length = 8) (w : World) :
    Calls Tryd.prog 88 #[.agg (u16s l).toArray] w fun e w' => e = .returned (.tuple #[.int .i64 ((lrunK l 8).1 : Int), .int .i64 ((lrunK l 8).2.1 : Int)]) ∧ Hid (Below w.heap.size w w') := by
  match l, h8 with
  | [a0, a1, a2, a3, a4, a5, a6, a7], _ =>
    obtain ⟨L, hL⟩ : ∃ L, L = [a0, a1, a2, a3, a4, a5, a6, a7] := ⟨_, rfl⟩
    have H8 : Hid (L.length = 8) := by show _ = _; rw [hL]; rfl
    have HV : Hid (BlkV (w.alloc (.cells #[.int .u16 (a0 : Int), .int .u16 (a1 : Int), .int .u16 (a2 : Int), .int .u16 (a3 : Int), .int .u16 (a4 : Int), .int .u16 (a5 : Int), .int .u16 (a6 : Int), .int .u16 (a7 : Int)] 130)) w.heap.size 130 (u16s L) ∧ Below w.heap.size w (w.alloc (.cells #[.int .u16 (a0 : Int), .int .u16 (a1 : Int), .int .u16 (a2 : Int), .int .u16 (a3 : Int), .int .u16 (a4 : Int), .int .u16 (a5 : Int), .int .u16 (a6 : Int), .int .u16 (a7 : Int)] 130))) := by
      refine ⟨?_, (Below.refl _ _).alloc (Nat.le_refl _) _⟩
      rw [hL]
      exact heap_alloc_new _ _
    rw [← hL]
    have HLL := Lib.hid hL
    clear hL
    have e0 : (u16s L).toArray = #[.int .u16 (a0 : Int), .int .u16 (a1 : Int), .int .u16 (a2 : Int), .int .u16 (a3 : Int), .int .u16 (a4 : Int), .int .u16 (a5 : Int), .int .u16 (a6 : Int), .int .u16 (a7 : Int)] := by rw [HLL.out]; rfl
    rw [e0]
    clear e0
    go_enter Tryd.func88, Tryd.ntmps88
    go_wp2_with fail
    generalize (w.alloc (.cells #[.int .u16 (a0 : Int), .int .u16 (a1 : Int), .int .u16 (a2 : Int), .int .u16 (a3 : Int), .int .u16 (a4 : Int), .int .u16 (a5 : Int), .int .u16 (a6 : Int), .int .u16 (a7 : Int)] 130)) = wa at *
    go_loopw [4, 5, 6, 7] (fun x y z v wr => ∃ (k f t m : Nat), k ≤ 8 ∧ x = .int .i64 (f : Int) ∧ y = .int .i64 (t : Int) ∧ z = .int .i64 (m : Int) ∧ v = .int .i64 (k : Int) ∧ Hid (lrunK L k = (f, t, m)) ∧ Hid (BlkV wr w.heap.size 130 (u16s L) ∧ Below w.heap.size w wr)) (fun _ _ _ v _ => 8 - (intOf v).toNat)
    case atStart => exact ⟨0, 0, 0, 0, by omega, rfl, rfl, rfl, rfl, rfl, HV⟩
    case round =>
      obtain ⟨k, f, t, m, hk, rfl, rfl, rfl, rfl, HR, HW⟩ := hrel
      have hok := lrunK_ok L k
      rw [HR.out] at hok
      simp only at hok
      obtain ⟨o1, o2, o3⟩ := hok
      by_cases hlt : k < 8
      · have hlt' : (k : Int) < 8 := by omega
        have hkl : k < L.length := by rw [H8.out]; exact hlt
        have hc := HW.out.1.cell k (by simp [u16s]; exact hkl)
        have hcv : (u16s L)[k]'(by simp [u16s]; exact hkl) = .int .u16 ((L[k] : Nat) : Int) := by simp [u16s]
        rw [hcv] at hc
        clear hcv
        have HS : Hid (lrunK L (k + 1) = lstep L (f, t, m) k) := by show _ = _; rw [lrunK_succ, HR.out]
        have hgd : L.getD k 0 = L[k] := by rw [List.getD_eq_getElem?_getD, List.getElem?_eq_getElem hkl]; rfl
        have HS2 : Hid (lrunK L (k + 1) = if max 1 (t - f) < k + 1 - (if L[k] ≠ 0 then k + 1 else m) then ((if L[k] ≠ 0 then k + 1 else m), k + 1, (if L[k] ≠ 0 then k + 1 else m)) else (f, t, (if L[k] ≠ 0 then k + 1 else m))) := by
          show _ = _
          rw [HS.out]
          unfold lstep
          rw [hgd]
        clear HS hgd
        generalize L[k] = q at *
        by_cases hq : q = 0
        · subst hq
          simp only [ne_eq, not_true, if_false] at HS2
          by_cases hm : 1 ≤ t - f
          · have hmx : max (1 : Nat) (t - f) = t - f := Nat.max_eq_right hm
            rw [hmx] at HS2
            have hm' : (1 : Int) ≤ (t : Int) - (f : Int) := by omega
            by_cases hg : t - f < k + 1 - m
            · rw [if_pos hg] at HS2
              have hg' : (t : Int) - (f : Int) < (k : Int) + 1 - (m : Int) := by omega
              go_wp2_with fail
              all_goals first
                | exact ⟨⟨k + 1, m, k + 1, m, by omega, rfl, by go_num, rfl, by go_num, HS2, HW⟩, by simp [intOf]; omega⟩
                | (exfalso; omega)
            · rw [if_neg hg] at HS2
              have hg' : ¬ (t : Int) - (f : Int) < (k : Int) + 1 - (m : Int) := by omega
              go_wp2_with fail
              all_goals first
                | exact ⟨⟨k + 1, f, t, m, by omega, rfl, rfl, rfl, by go_num, HS2, HW⟩, by simp [intOf]; omega⟩
                | (exfalso; omega)
          · have hmx : max (1 : Nat) (t - f) = 1 := Nat.max_eq_left (by omega)
            rw [hmx] at HS2
            have hm' : (t : Int) - (f : Int) < 1 := by omega
            by_cases hg : 1 < k + 1 - m
            · rw [if_pos hg] at HS2
              have hg' : (1 : Int) < (k : Int) + 1 - (m : Int) := by omega
              go_wp2_with fail
              all_goals first
                | exact ⟨⟨k + 1, m, k + 1, m, by omega, rfl, by go_num, rfl, by go_num, HS2, HW⟩, by simp [intOf]; omega⟩
                | (exfalso; omega)
            · rw [if_neg hg] at HS2
              have hg' : ¬ (1 : Int) < (k : Int) + 1 - (m : Int) := by omega
              go_wp2_with fail
              all_goals first
                | exact ⟨⟨k + 1, f, t, m, by omega, rfl, rfl, rfl, by go_num, HS2, HW⟩, by simp [intOf]; omega⟩
                | (exfalso; omega)
        · have hq' : ¬ (q : Int) = 0 := by omega
          have hq2 : ((q : Int) != 0) = true := by simp; omega
          simp only [ne_eq, hq, not_false_eq_true, if_true, Nat.sub_self] at HS2
          rw [if_neg (by omega)] at HS2
          go_wp2_with fail
          all_goals first
            | exact ⟨⟨k + 1, f, t, k + 1, by omega, rfl, rfl, by go_num, by go_num, HS2, HW⟩, by simp [intOf]; omega⟩
            | (exfalso; omega)
      · have hge : ¬ (k : Int) < 8 := by omega
        have hk8 : k = 8 := by omega
        subst hk8
        go_wp2_with fail
        go_ret2
        exact ⟨by rw [HR.out]; rfl, HW.out.2⟩
end Go.Proofs.YtoppdmlmhigogaaDoor
namespace Go.Proofs.YtoppdmlmhigogaaDoor
open Go.ChangeShapes Go.WideShapes Go.ChangeAt Go.RowKit Go.Sort
set_option linter.unusedVariables false
set_option linter.unusedSimpArgs false
theorem or8 (x y : Int) (hx : 0 ≤ x ∧ x ≤ 255) (hy : 0 ≤ y ∧ y ≤ 255) : bits .or .u16 (x * 256) y = x * 256 + y := by
  obtain ⟨a, rfl⟩ : ∃ a : Nat, x = (a : Int) := ⟨x.toNat, by omega⟩
  obtain ⟨b, rfl⟩ : ∃ b : Nat, y = (b : Int) := ⟨y.toNat, by omega⟩
  have h := u16_or ((a : Int) * 256) (b : Int) (by omega) (by omega) (by omega) (by omega)
  rw [h]
  have e1 : ((a : Int) * 256).toNat = a <<< 8 := by rw [Nat.shiftLeft_eq]; omega
  have e2 : ((b : Int)).toNat = b := by omega
  rw [e1, e2, ← Nat.shiftLeft_add_eq_or_of_lt (show b < 2 ^ 8 by omega), Nat.shiftLeft_eq]
  omega
theorem xprs_at : ∀ (k : Nat) (zs : List Int), 2 * k + 1 < zs.length → (xprs zs)[k]? = some (256 * (zs.getD (2 * k) 0).toNat + (zs.getD (2 * k + 1) 0).toNat)
  | 0, a :: b :: l, _ => by simp [xprs]
  | k + 1, a :: b :: l, h => by
    have := xprs_at k l (by simp at h; omega)
    simp only [xprs, List.getElem?_cons_succ, this]
    rw [show 2 * (k + 1) = 2 * k + 1 + 1 by omega, show 2 * k + 1 + 1 + 1 = (2 * k + 1) + 1 + 1 by omega]
    rfl
  | 0, [], h => by simp at h
  | 0, [a], h => by simp at h
  | k + 1, [], h => by simp at h
  | k + 1, [a], h => by simp at h
/-- The first k numbers, noughts behind. -/
def fill (l : List Nat) (k : Nat) : List Nat := l.take k ++ List.replicate (8 - k) 0
theorem fill_len (l : List Nat) (k : Nat) (h8 : l.length = 8) (hk : k ≤ 8) : (fill l k).length = 8 := by simp [fill]; omega
theorem fill_set (l : List Nat) (k : Nat) (h8 : l.length = 8) (hk : k < 8) : (u16s (fill l k)).set k (.int .u16 ((l[k]'(by omega) : Nat) : Int)) = u16s (fill l (k + 1)) := by
  unfold u16s
  have e : (fill l k).set k (l[k]'(by omega)) = fill l (k + 1) := by
    unfold fill
    rw [List.set_append_right _ _ (by simp; omega)]
    rw [show 8 - k = (8 - (k + 1)) + 1 by omega, List.replicate_succ]
    simp only [List.length_take]
    rw [show k - min k l.length = 0 by omega, List.set_cons_zero, take_snocN l k (by omega), List.append_assoc]
    rfl
  rw [← e, List.map_set]
theorem sl8h (g k : Nat) (hk : k ≤ 8) (W : World) : (Instr.sliceAt 130 (.pointer (some ⟨g, 0, none⟩)) none (some (.int .i64 (k : Int))) none).run Tryd.prog W = .ok (.slice (some ⟨g, 0, none⟩) k 8) W := by
  have hal : Tryd.prog.arrayLen 130 = 8 := by kernel_rfl
  rw [run_sliceAt_array_h W 130 ⟨g, 0, none⟩ (by simp [Program.arrayLen, Program.elem, Tryd.underlying130]) .i64 (k : Int) (by omega) (by rw [hal]; omega)]
  go_simp
theorem sl8l (g k : Nat) (hk : k ≤ 8) : ∃ ta, (∀ W, (Instr.sliceAt 130 (.pointer (some ⟨g, 0, none⟩)) (some (.int .i64 (k : Int))) none none).run Tryd.prog W = .ok (.slice ta (8 - k) (8 - k)) W) ∧ ((ta = some ⟨g, k, none⟩ ∧ k < 8) ∨ (ta = some ⟨g, 0, none⟩ ∧ k = 8)) := by
  have hal : Tryd.prog.arrayLen 130 = 8 := by kernel_rfl
  by_cases h8 : k = 8
  · subst h8
    refine ⟨_, fun W => ?_, .inr ⟨rfl, rfl⟩⟩
    rw [run_sliceAt_array_l W 130 ⟨g, 0, none⟩ (by simp [Program.arrayLen, Program.elem, Tryd.underlying130]) .i64 ((8 : Nat) : Int) (by omega) (by rw [hal]; omega)]
    go_simp
  · refine ⟨_, fun W => ?_, .inl ⟨rfl, by omega⟩⟩
    rw [run_sliceAt_array_l W 130 ⟨g, 0, none⟩ (by simp [Program.arrayLen, Program.elem, Tryd.underlying130]) .i64 (k : Int) (by omega) (by rw [hal]; omega)]
    go_simp
    omega
set_option maxRecDepth 100000 in
set_option maxHeartbeats 4000000 in
theorem ltext_any (a : Option Addr) (c : Nat) (zs : List Int) (w : World) (hr : Rd w a zs) (hl : zs.length = 16) (hL : LayT w) :
    Calls Tryd.prog 82 #[.slice a 16 c] w fun e w' => e = .returned (.string (lb (xa6 (xprs zs)))) ∧ Hid (Below w.heap.size w w') := by
  have HR : Hid (Rd w a zs) := hr
  have HLn : Hid (zs.length = 16) := hl
  have HL : Hid (LayT w) := hL
  have hbz := hr.2
  obtain ⟨i1, i2, i3⟩ := xprs_by zs 8 (by omega) hbz
  have HX : Hid ((xprs zs).length = 8 ∧ (∀ n ∈ xprs zs, n < 65536) ∧ ∀ k, k < 8 → (xprs zs)[k]? = some (256 * (zs.getD (2 * k) 0).toNat + (zs.getD (2 * k + 1) 0).toNat)) := ⟨i1, i3, fun k hk => xprs_at k zs (by omega)⟩
  clear i1 i2 i3 hbz hr hl hL
  obtain ⟨b, o, rfl, hb⟩ : ∃ b o, a = some ⟨b, o, none⟩ ∧ b < w.heap.size := by
    rcases HR.out.1 with h1 | ⟨b, o, h1, h2, h3⟩
    · have := HLn.out; rw [h1] at this; simp at this
    · exact ⟨b, o, h1, h2⟩
  generalize xprs zs = L at *
  have H0 : Hid (BlkV (w.alloc (.cells #[.int .u16 0, .int .u16 0, .int .u16 0, .int .u16 0, .int .u16 0, .int .u16 0, .int .u16 0, .int .u16 0] 130)) w.heap.size 130 (u16s (fill L 0)) ∧ Below w.heap.size w (w.alloc (.cells #[.int .u16 0, .int .u16 0, .int .u16 0, .int .u16 0, .int .u16 0, .int .u16 0, .int .u16 0, .int .u16 0] 130))) := ⟨by
    have e : u16s (fill L 0) = #[.int .u16 0, .int .u16 0, .int .u16 0, .int .u16 0, .int .u16 0, .int .u16 0, .int .u16 0, .int .u16 0].toList := by simp [fill, u16s, List.replicate]
    unfold BlkV
    rw [e]
    exact heap_alloc_new _ _, (Below.refl _ _).alloc (Nat.le_refl _) _⟩
  go_enter Tryd.func82, Tryd.ntmps82
  go_wp2_with fail
  generalize (w.alloc (.cells #[.int .u16 0, .int .u16 0, .int .u16 0, .int .u16 0, .int .u16 0, .int .u16 0, .int .u16 0, .int .u16 0] 130)) = wa at *
  go_loopw [7] (fun x wr => ∃ k : Nat, k ≤ 8 ∧ x = .int .i64 k ∧ Hid (BlkV wr w.heap.size 130 (u16s (fill L k)) ∧ Below w.heap.size w wr)) (fun x _ => 8 - (intOf x).toNat)
  case atStart => exact ⟨0, by omega, rfl, H0⟩
  case round =>
    obtain ⟨k, hk, rfl, HW⟩ := hrel
    clear H0
    by_cases hlt : k < 8
    · have hlt' : (k : Int) < 8 := by omega
      have hR := HR.out.below HW.out.2
      have hrd : ∀ i, i < 16 → wr.cell? ⟨b, o + i, none⟩ = some (.int .u8 (zs.getD i 0)) := by
        intro i hi
        rcases hR.1 with h1 | ⟨b', o', h1, h2, h3⟩
        · have := HLn.out; rw [h1] at this; simp at this
        · injection h1 with h1
          injection h1 with e1 e2
          subst e1; subst e2
          exact h3 i (by rw [HLn.out]; exact hi)
      have hc1 := hrd (2 * k) (by omega)
      have hc2 := hrd (2 * k + 1) (by omega)
      have hb1 := hR.bd (2 * k)
      have hb2 := hR.bd (2 * k + 1)
      have hkl : k < L.length := by rw [HX.out.1]; exact hlt
      have hv : ((L[k] : Nat) : Int) = zs.getD (2 * k) 0 * 256 + zs.getD (2 * k + 1) 0 := by
        have := HX.out.2.2 k hlt
        rw [List.getElem?_eq_getElem hkl] at this
        injection this with this
        rw [this]; omega
      have HST : Hid ((u16s (fill L k)).set k (.int .u16 (zs.getD (2 * k) 0 * 256 + zs.getD (2 * k + 1) 0)) = u16s (fill L (k + 1))) := by
        show _ = _
        rw [← hv]
        exact fill_set L k HX.out.1 hlt
      have hlen : k < (u16s (fill L k)).length := by unfold u16s; rw [List.length_map, fill_len L k HX.out.1 (by omega)]; exact hlt
      have hc3 := HW.out.1.cell k hlen
      have hf3 := HW.out.1.frozen k
      generalize (u16s (fill L k))[k] = c0 at hc3
      clear hrd hR hv
      generalize zs.getD (2 * k) 0 = x at *
      generalize zs.getD (2 * k + 1) 0 = y at *
      have hor := or8 x y hb1 hb2
      have hw1 : IntKind.u16.wrap (x * 256) = x * 256 := by rw [IntKind.wrap_u16]; omega
      go_wp2_with fail
      go_region
      go_wp2
      refine ⟨⟨k + 1, by omega, by go_num, ?_, ?_⟩, by simp [intOf]; omega⟩
      · have := HW.out.1.stored k (.int .u16 (x * 256 + y))
        rw [HST.out] at this
        exact this
      · exact (HW.out.2.setCell (show w.heap.size ≤ (⟨w.heap.size, k, none⟩ : Addr).block from Nat.le_refl _) _).drew
    · have hge : ¬ (k : Int) < 8 := by omega
      have hk8 : k = 8 := by omega
      subst hk8
      obtain ⟨a0, a1, a2, a3, a4, a5, a6, a7, rfl⟩ : ∃ a0 a1 a2 a3 a4 a5 a6 a7, L = [a0, a1, a2, a3, a4, a5, a6, a7] := by
        have := HX.out.1
        match L, this with
        | [a0, a1, a2, a3, a4, a5, a6, a7], _ => exact ⟨a0, a1, a2, a3, a4, a5, a6, a7, rfl⟩
      have HV : Hid (BlkV wr w.heap.size 130 (u16s [a0, a1, a2, a3, a4, a5, a6, a7])) := HW.out.1
      have HB : Hid (Below w.heap.size w wr) := HW.out.2
      have d0 : wr.cell? ⟨w.heap.size, 0, none⟩ = some (.int .u16 (a0 : Int)) := HV.out.cell 0 (by simp [u16s])
      have d1 : wr.cell? ⟨w.heap.size, 1, none⟩ = some (.int .u16 (a1 : Int)) := HV.out.cell 1 (by simp [u16s])
      have d2 : wr.cell? ⟨w.heap.size, 2, none⟩ = some (.int .u16 (a2 : Int)) := HV.out.cell 2 (by simp [u16s])
      have d3 : wr.cell? ⟨w.heap.size, 3, none⟩ = some (.int .u16 (a3 : Int)) := HV.out.cell 3 (by simp [u16s])
      have d4 : wr.cell? ⟨w.heap.size, 4, none⟩ = some (.int .u16 (a4 : Int)) := HV.out.cell 4 (by simp [u16s])
      have d5 : wr.cell? ⟨w.heap.size, 5, none⟩ = some (.int .u16 (a5 : Int)) := HV.out.cell 5 (by simp [u16s])
      have d6 : wr.cell? ⟨w.heap.size, 6, none⟩ = some (.int .u16 (a6 : Int)) := HV.out.cell 6 (by simp [u16s])
      have d7 : wr.cell? ⟨w.heap.size, 7, none⟩ = some (.int .u16 (a7 : Int)) := HV.out.cell 7 (by simp [u16s])
      have K := Lib.hid (show Calls Tryd.prog 88 #[.agg #[.int .u16 (a0 : Int), .int .u16 (a1 : Int), .int .u16 (a2 : Int), .int .u16 (a3 : Int), .int .u16 (a4 : Int), .int .u16 (a5 : Int), .int .u16 (a6 : Int), .int .u16 (a7 : Int)]] wr _ from run_any [a0, a1, a2, a3, a4, a5, a6, a7] rfl wr)
      have hok := lrunK_ok [a0, a1, a2, a3, a4, a5, a6, a7] 8
      have HA6 := Lib.hid (xa6_run [a0, a1, a2, a3, a4, a5, a6, a7] rfl)
      have HBD := Lib.hid HX.out.2.1
      obtain ⟨f, hf⟩ : ∃ f, (lrunK [a0, a1, a2, a3, a4, a5, a6, a7] 8).1 = f := ⟨_, rfl⟩
      obtain ⟨t, ht⟩ : ∃ t, (lrunK [a0, a1, a2, a3, a4, a5, a6, a7] 8).2.1 = t := ⟨_, rfl⟩
      rw [hf, ht] at K HA6 hok
      obtain ⟨o1, o2, -⟩ := hok
      clear hf ht HW HX HR HLn
      obtain ⟨M, hM⟩ : ∃ M, M = [a0, a1, a2, a3, a4, a5, a6, a7] := ⟨_, rfl⟩
      rw [← hM] at HA6 HBD HV
      have HM : Hid (M.length = 8 ∧ M = [a0, a1, a2, a3, a4, a5, a6, a7]) := ⟨by rw [hM]; rfl, hM⟩
      clear hM
      go_wp2_with fail
      refine K.out.mono ?_
      rintro e w1 ⟨rfl, H1⟩
      have HV1 := Lib.hid (HV.out.below H1.out)
      have HB1 := Lib.hid (HB.out.trans (H1.out.mono HB.out.size))
      have HL1 := Lib.hid (HL.out.below HB1.out)
      clear d0 d1 d2 d3 d4 d5 d6 d7 K HV H1 HB HL
      by_cases hft : f = t
      · subst hft
        have KJ := Lib.hid (joined_any (some ⟨w.heap.size, 0, none⟩) 8 8 M w1 (by have := HV1.out.rd 8; rw [List.take_of_length_le (by simp [u16s, HM.out.1])] at this; exact this) HM.out.1 (by omega) HBD.out HL1.out)
        have HE : Hid (xa6 [a0, a1, a2, a3, a4, a5, a6, a7] = xcol M) := by rw [← HM.out.2]; exact HA6.out.1 rfl
        clear HV1 HL1 HA6 HBD
        go_wp2_with fail
        refine KJ.out.mono ?_
        rintro e w2 ⟨rfl, H2⟩
        have HB2 := Lib.hid (HB1.out.trans (H2.out.mono HB1.out.size))
        go_wp2_with fail
        go_ret
        exact ⟨by rw [HE.out]; rfl, HB2.out⟩
      · have hft' : ¬ (f : Int) = (t : Int) := by omega
        have hft2 : ((f : Int) == (t : Int)) = false := by rw [beq_eq_false_iff_ne]; exact hft'
        have HE : Hid (xa6 [a0, a1, a2, a3, a4, a5, a6, a7] = xcol (M.take f) ++ 58 :: 58 :: xcol (M.drop t)) := by rw [← HM.out.2]; exact HA6.out.2 hft
        clear HA6
        have f8 : (f : Int) ≤ 8 := by omega
        have t8 : (t : Int) ≤ 8 := by omega
        have hcl : ∀ l : List Nat, (∀ n ∈ l, n < 65536) → l.length ≤ 8 → (lb (xcol l)).size ≤ 100 := by
          intro l h1 h2
          have h3 : (xcol l).length ≤ l.length * 5 := by
            have := xjoin_len 58 (l.map xhex) 4 (by
              intro p hp
              obtain ⟨z, hz, rfl⟩ := List.mem_map.1 hp
              exact (xhex_len _ (h1 z hz)).2)
            rw [List.length_map] at this
            exact this
          have : (lb (xcol l)).size = (xcol l).length := by rw [← nums_len, nums_lb _ (fun c hc => by have := xcol_ok l c hc; unfold xok at this; omega)]
          omega
        have hM8 := HM.out.1
        obtain ⟨r1, hr1⟩ : ∃ r, lb (xcol (M.take f)) = r := ⟨_, rfl⟩
        obtain ⟨r2, hr2⟩ : ∃ r, lb (xcol (M.drop t)) = r := ⟨_, rfl⟩
        have z1 : r1.size ≤ 100 := by rw [← hr1]; exact hcl _ (fun n hn => HBD.out n (List.mem_of_mem_take hn)) (by simp; omega)
        have z2 : r2.size ≤ 100 := by rw [← hr2]; exact hcl _ (fun n hn => HBD.out n (List.mem_of_mem_drop hn)) (by simp; omega)
        have HRR : Hid (lb (xcol (M.take f)) = r1 ∧ lb (xcol (M.drop t)) = r2) := ⟨hr1, hr2⟩
        have hal : Tryd.prog.arrayLen 130 = 8 := by kernel_rfl
        have hs1 : ∀ W, (Instr.sliceAt 130 (.pointer (some ⟨w.heap.size, 0, none⟩)) none (some (.int .i64 (f : Int))) none).run Tryd.prog W = .ok (.slice (some ⟨w.heap.size, 0, none⟩) f 8) W := sl8h w.heap.size f (by omega)
        obtain ⟨ta, hs2, hta⟩ := sl8l w.heap.size t (by omega)
        have hkey : ∀ W, BlkV W w.heap.size 130 (u16s M) → RdV W ta (u16s (M.drop t)) := by
          intro W hW
          rcases hta with ⟨rfl, _⟩ | ⟨rfl, ht8⟩
          · have := hW.rd 8
            have h2 := this.cut t (8 - t) (a' := some ⟨w.heap.size, t, none⟩) (fun _ b o e => by injection e with e; injection e with e1 e2; subst e1; subst e2; simp)
            have e3 : (((u16s M).take 8).drop t).take (8 - t) = u16s (M.drop t) := by
              rw [List.take_of_length_le (by simp [u16s, hM8]), List.take_of_length_le (by simp [u16s, hM8])]
              simp [u16s]
            rw [e3] at h2
            exact h2
          · have : u16s (M.drop t) = [] := by rw [List.drop_eq_nil_of_le (by omega)]; rfl
            rw [this]; exact .inl rfl
        have K : Hid (∀ W v r, Hid (LayT W ∧ BlkV W w.heap.size 130 (u16s M) ∧ Below w.heap.size w W) → ((v = .slice (some ⟨w.heap.size, 0, none⟩) f 8 ∧ r = r1) ∨ (v = .slice ta (8 - t) (8 - t) ∧ r = r2)) → Calls Tryd.prog 89 #[v] W fun e w' => e = .returned (.string r) ∧ Hid (LayT w' ∧ BlkV w' w.heap.size 130 (u16s M) ∧ Below w.heap.size w w')) := by
          intro W v r HS hv
          have fin : ∀ w', Below W.heap.size W w' → (LayT w' ∧ BlkV w' w.heap.size 130 (u16s M) ∧ Below w.heap.size w w') := fun w' h => ⟨HS.out.1.below h, HS.out.2.1.below h, HS.out.2.2.trans (h.mono HS.out.2.2.size)⟩
          rcases hv with ⟨rfl, rfl⟩ | ⟨rfl, rfl⟩
          · refine (joined_any (some ⟨w.heap.size, 0, none⟩) f 8 (M.take f) W (by have := HS.out.2.1.rd f; rw [show (u16s M).take f = u16s (M.take f) by simp [u16s]] at this; exact this) (by simp; omega) (by omega) (fun n hn => HBD.out n (List.mem_of_mem_take hn)) HS.out.1).mono ?_
            rintro e w' ⟨rfl, H⟩
            exact ⟨by rw [HRR.out.1], fin w' H.out⟩
          · refine (joined_any ta (8 - t) (8 - t) (M.drop t) W (hkey W HS.out.2.1) (by simp; omega) (by omega) (fun n hn => HBD.out n (List.mem_of_mem_drop hn)) HS.out.1).mono ?_
            rintro e w' ⟨rfl, H⟩
            exact ⟨by rw [HRR.out.2], fin w' H.out⟩
        have HS : Hid (LayT w1 ∧ BlkV w1 w.heap.size 130 (u16s M) ∧ Below w.heap.size w w1) := ⟨HL1.out, HV1.out, HB1.out⟩
        have HD : Hid (∀ W, Hid (LayT W ∧ BlkV W w.heap.size 130 (u16s M) ∧ Below w.heap.size w W) → Hid (LayT W.drew ∧ BlkV W.drew w.heap.size 130 (u16s M) ∧ Below w.heap.size w W.drew)) := fun W h => ⟨h.out.1.below (Below.refl _ _).drew, h.out.2.1, h.out.2.2.trans (Below.refl _ _).drew⟩
        have HEE : Hid (lb (xa6 [a0, a1, a2, a3, a4, a5, a6, a7]) = r1 ++ ⟨#[58, 58]⟩ ++ r2) := by
          show _ = _
          rw [HE.out, ← HRR.out.1, ← HRR.out.2]
          apply ByteArray.ext
          simp [lb, txt]
        clear hr1 hr2 hal hkey hta hcl HL1 HV1 HB1 HE HRR HBD HM hM8
        go_wp2_with fail
        go_region_with (go_at_call 89; refine (K.out _ _ _ (by first | exact HS | exact HD.out _ HS) (by first | exact .inl ⟨rfl, rfl⟩ | exact .inr ⟨rfl, rfl⟩)).mono ?_; rintro e w9 ⟨rfl, HS⟩)
        all_goals
          go_wp2
          go_ret
          exact ⟨by rw [HEE.out]; rfl, HS.out.2.2⟩
theorem atext_any (a : Option Addr) (n c : Nat) (zs : List Int) (w : World) (hr : Rd w a zs) (hl : zs.length = n) (hn : n = 4 ∨ n = 16) (hL : LayT w) :
    Calls Tryd.prog 68 #[.slice a n c] w fun e w' => e = .returned (.string (lb ((xaddr zs).getD []))) ∧ Hid (Below w.heap.size w w') := by
  rcases hn with rfl | rfl
  · have e : (xaddr zs).getD [] = xjoin 46 (zs.map fun z => xdec z.toNat) := by unfold xaddr; rw [if_pos hl]; rfl
    have K := Lib.hid (stext_any a 4 c zs w hr hl (by omega) hL)
    rw [e]
    clear hr hL e
    go_enter Tryd.func68, Tryd.ntmps68
    go_wp2_with fail
    refine K.out.mono ?_
    rintro e w1 ⟨rfl, H⟩
    go_wp2_with fail
    go_ret
    exact ⟨rfl, H.out⟩
  · have e : (xaddr zs).getD [] = xa6 (xprs zs) := by unfold xaddr; rw [if_neg (by omega), if_pos hl]; rfl
    have K := Lib.hid (ltext_any a c zs w hr hl hL)
    rw [e]
    clear hr hL e
    go_enter Tryd.func68, Tryd.ntmps68
    go_wp2_with fail
    refine K.out.mono ?_
    rintro e w1 ⟨rfl, H⟩
    go_wp2_with fail
    go_ret
    exact ⟨rfl, H.out⟩
end Go.Proofs.YtoppdmlmhigogaaDoor

