/- Texts laid together, in parts: Ha Hb Hc Nxa Hd He Nsw Hf Fe Ff Nxh Oca Ocb Occ Ocd Hg Hh Hi Ga Gd Ge Hj Hk Hl Hm. -/
import Derived.Test.YtkjnbgekaifdfaaGreatWga
import Derived.Lib.Bytealg
import Derived.LaidEqlPtr
import Derived.WalkSpells
import Derived.Deep.RegionHeld3
import Derived.Deep.RegionLaw
import Derived.Deep.QuietTactic
import Derived.BigQuiet
namespace Go.Proofs.YtkjnbgekaifdfaaGreat
open Go.ChangeShapes Go.WideShapes Go.ChangeAt Go.RowKit
set_option linter.unusedVariables false
set_option linter.unusedSimpArgs false
/-- How many things data of a type have: names, those in front, numbers, their bytes, texts, tags, tails, bytes. -/
structure Fs where
  nn : Nat
  nf : Nat
  nu : Nat
  wd : Nat
  nt : Int
  tg : Nat
  tl : Nat
  nr : Int
def fs (t : Nat) : Fs :=
  if t = 1 then ⟨0, 0, 0, 0, 0, 0, 0, 4⟩ else if t = 28 then ⟨0, 0, 0, 0, 0, 0, 0, 16⟩ else if t = 2 ∨ t = 5 ∨ t = 12 then ⟨1, 0, 0, 0, 0, 0, 0, 0⟩ else if t = 6 then ⟨2, 2, 5, 4, 0, 0, 0, 0⟩ else
  if t = 15 then ⟨1, 0, 1, 2, 0, 0, 0, 0⟩ else if t = 33 then ⟨1, 0, 3, 2, 0, 0, 0, 0⟩ else if t = 16 then ⟨0, 0, 0, 0, -1, 0, 0, 0⟩ else if t = 257 then ⟨0, 0, 1, 1, 2, 1, 1, 0⟩ else ⟨0, 0, 0, 0, 0, 0, 0, -2⟩
theorem fs_cases (t : Nat) : (t = 1 ∧ fs t = ⟨0, 0, 0, 0, 0, 0, 0, 4⟩) ∨ (t = 28 ∧ fs t = ⟨0, 0, 0, 0, 0, 0, 0, 16⟩) ∨ ((t = 2 ∨ t = 5 ∨ t = 12) ∧ fs t = ⟨1, 0, 0, 0, 0, 0, 0, 0⟩) ∨ (t = 6 ∧ fs t = ⟨2, 2, 5, 4, 0, 0, 0, 0⟩) ∨
    (t = 15 ∧ fs t = ⟨1, 0, 1, 2, 0, 0, 0, 0⟩) ∨ (t = 33 ∧ fs t = ⟨1, 0, 3, 2, 0, 0, 0, 0⟩) ∨ (t = 16 ∧ fs t = ⟨0, 0, 0, 0, -1, 0, 0, 0⟩) ∨ (t = 257 ∧ fs t = ⟨0, 0, 1, 1, 2, 1, 1, 0⟩) ∨
    ((t ≠ 1 ∧ t ≠ 28 ∧ t ≠ 2 ∧ t ≠ 5 ∧ t ≠ 12 ∧ t ≠ 6 ∧ t ≠ 15 ∧ t ≠ 33 ∧ t ≠ 16 ∧ t ≠ 257) ∧ fs t = ⟨0, 0, 0, 0, 0, 0, 0, -2⟩) := by
  unfold fs
  by_cases h1 : t = 1
  · simp [h1]
  by_cases h2 : t = 28
  · simp [h2]
  by_cases h3 : t = 2 ∨ t = 5 ∨ t = 12
  · rcases h3 with h | h | h <;> simp [h]
  by_cases h4 : t = 6
  · simp [h4]
  by_cases h5 : t = 15
  · simp [h5]
  by_cases h6 : t = 33
  · simp [h6]
  by_cases h7 : t = 16
  · simp [h7]
  by_cases h8 : t = 257
  · simp [h8]
  · rw [if_neg h1, if_neg h2, if_neg h3, if_neg h4, if_neg h5, if_neg h6, if_neg h7, if_neg h8]
    simp only [not_or] at h3
    exact .inr (.inr (.inr (.inr (.inr (.inr (.inr (.inr ⟨⟨h1, h2, h3.1, h3.2.1, h3.2.2, h4, h5, h6, h7, h8⟩, rfl⟩)))))))
set_option maxRecDepth 100000 in
set_option maxHeartbeats 2000000 in
theorem fieldsof_any (t : Nat) (w : World) : Calls Tryz.prog 97 #[.int .u16 t] w fun e w' => e = .returned (.agg #[.int .i64 (fs t).nn, .int .i64 (fs t).nf, .int .i64 (fs t).nu, .int .i64 (fs t).wd, .int .i64 (fs t).nt, .int .i64 (fs t).tg, .int .i64 (fs t).tl, .int .i64 (fs t).nr]) ∧ Hid (Below w.heap.size w w') := by
  rcases fs_cases t with ⟨ht, e⟩ | ⟨ht, e⟩ | ⟨ht, e⟩ | ⟨ht, e⟩ | ⟨ht, e⟩ | ⟨ht, e⟩ | ⟨ht, e⟩ | ⟨ht, e⟩ | ⟨ht, e⟩
  · subst ht; rw [e]; clear e
    go_enter Tryz.func97, Tryz.ntmps97
    go_wp2_with fail
    exact bodyPost_ret (v := .agg #[.int .i64 0, .int .i64 0, .int .i64 0, .int .i64 0, .int .i64 0, .int .i64 0, .int .i64 0, .int .i64 4]) (by simp [results, Tryz.results97, go_sem]) rfl ⟨rfl, (Below.refl _ _).alloc (Nat.le_refl _) _⟩
  · subst ht; rw [e]; clear e
    go_enter Tryz.func97, Tryz.ntmps97
    go_wp2_with fail
    exact bodyPost_ret (v := .agg #[.int .i64 0, .int .i64 0, .int .i64 0, .int .i64 0, .int .i64 0, .int .i64 0, .int .i64 0, .int .i64 16]) (by simp [results, Tryz.results97, go_sem]) rfl ⟨rfl, (Below.refl _ _).alloc (Nat.le_refl _) _⟩
  · rw [e]; clear e
    rcases ht with rfl | rfl | rfl
    all_goals
      go_enter Tryz.func97, Tryz.ntmps97
      go_wp2_with fail
      exact bodyPost_ret (v := .agg #[.int .i64 1, .int .i64 0, .int .i64 0, .int .i64 0, .int .i64 0, .int .i64 0, .int .i64 0, .int .i64 0]) (by simp [results, Tryz.results97, go_sem]) rfl ⟨rfl, (Below.refl _ _).alloc (Nat.le_refl _) _⟩
  · subst ht; rw [e]; clear e
    go_enter Tryz.func97, Tryz.ntmps97
    go_wp2_with fail
    exact bodyPost_ret (v := .agg #[.int .i64 2, .int .i64 2, .int .i64 5, .int .i64 4, .int .i64 0, .int .i64 0, .int .i64 0, .int .i64 0]) (by simp [results, Tryz.results97, go_sem]) rfl ⟨rfl, (Below.refl _ _).alloc (Nat.le_refl _) _⟩
  · subst ht; rw [e]; clear e
    go_enter Tryz.func97, Tryz.ntmps97
    go_wp2_with fail
    exact bodyPost_ret (v := .agg #[.int .i64 1, .int .i64 0, .int .i64 1, .int .i64 2, .int .i64 0, .int .i64 0, .int .i64 0, .int .i64 0]) (by simp [results, Tryz.results97, go_sem]) rfl ⟨rfl, (Below.refl _ _).alloc (Nat.le_refl _) _⟩
  · subst ht; rw [e]; clear e
    go_enter Tryz.func97, Tryz.ntmps97
    go_wp2_with fail
    exact bodyPost_ret (v := .agg #[.int .i64 1, .int .i64 0, .int .i64 3, .int .i64 2, .int .i64 0, .int .i64 0, .int .i64 0, .int .i64 0]) (by simp [results, Tryz.results97, go_sem]) rfl ⟨rfl, (Below.refl _ _).alloc (Nat.le_refl _) _⟩
  · subst ht; rw [e]; clear e
    go_enter Tryz.func97, Tryz.ntmps97
    go_wp2_with fail
    exact bodyPost_ret (v := .agg #[.int .i64 0, .int .i64 0, .int .i64 0, .int .i64 0, .int .i64 (-1), .int .i64 0, .int .i64 0, .int .i64 0]) (by simp [results, Tryz.results97, go_sem]) rfl ⟨rfl, (Below.refl _ _).alloc (Nat.le_refl _) _⟩
  · subst ht; rw [e]; clear e
    go_enter Tryz.func97, Tryz.ntmps97
    go_wp2_with fail
    exact bodyPost_ret (v := .agg #[.int .i64 0, .int .i64 0, .int .i64 1, .int .i64 1, .int .i64 2, .int .i64 1, .int .i64 1, .int .i64 0]) (by simp [results, Tryz.results97, go_sem]) rfl ⟨rfl, (Below.refl _ _).alloc (Nat.le_refl _) _⟩
  · rw [e]; clear e
    obtain ⟨h1, h2, h3, h4, h5, h6, h7, h8, h9, h10⟩ := ht
    have q1 : ((t : Int) == 1) = false := by simp; omega
    have q2 : ((t : Int) == 28) = false := by simp; omega
    have q3 : ((t : Int) == 2) = false := by simp; omega
    have q4 : ((t : Int) == 5) = false := by simp; omega
    have q5 : ((t : Int) == 12) = false := by simp; omega
    have q6 : ((t : Int) == 6) = false := by simp; omega
    have q7 : ((t : Int) == 15) = false := by simp; omega
    have q8 : ((t : Int) == 33) = false := by simp; omega
    have q9 : ((t : Int) == 16) = false := by simp; omega
    have q10 : ((t : Int) == 257) = false := by simp; omega
    clear h1 h2 h3 h4 h5 h6 h7 h8 h9 h10
    go_enter Tryz.func97, Tryz.ntmps97
    go_wp2_with fail
    exact bodyPost_ret (v := .agg #[.int .i64 0, .int .i64 0, .int .i64 0, .int .i64 0, .int .i64 0, .int .i64 0, .int .i64 0, .int .i64 (-2)]) (by simp [results, Tryz.results97, go_sem]) rfl ⟨rfl, (Below.refl _ _).alloc (Nat.le_refl _) _⟩
set_option maxRecDepth 100000 in
set_option maxHeartbeats 1000000 in
theorem asked_any (t : Int) (w : World) : Calls Tryz.prog 131 #[.int .u16 t] w fun e w' => e = .returned (.bool (decide (128 ≤ t) && decide (t ≤ 255))) ∧ w' = w := by
  go_enter Tryz.func131, Tryz.ntmps131
  go_wp2
  all_goals
    go_ret
    refine ⟨ret_bool ?_, rfl⟩
    simp_all
    try omega
set_option maxRecDepth 100000 in
set_option maxHeartbeats 1000000 in
/-- Whether there are data of a type. -/
theorem hasdata_any (t : Nat) (w : World) : Calls Tryz.prog 96 #[.int .u16 t] w fun e w' => e = .returned (.bool (mayT t)) ∧ w' = w := by
  have HS : Hid (∀ W, Calls Tryz.prog 117 #[.int .u16 t] W fun e w' => e = .returned (.bool (decide (t ≠ 0) && decide (t ≠ 41) && (decide (t < 128) || decide (255 < t)))) ∧ w' = W) := by
    intro W
    go_enter Tryz.func117, Tryz.ntmps117
    by_cases h0 : t = 0
    · subst h0
      go_wp2_with fail
      go_ret
      exact ⟨ret_bool (by decide), rfl⟩
    · by_cases h1 : t = 41
      · subst h1
        go_wp2_with fail
        go_ret
        exact ⟨ret_bool (by decide), rfl⟩
      · have q0 : ((t : Int) == 0) = false := by simp; omega
        have q1 : ((t : Int) == 41) = false := by simp; omega
        go_wp2_with fail
        refine (asked_any t _).mono ?_
        rintro e W ⟨rfl, rfl⟩
        go_wp2_with fail
        go_ret
        refine ⟨ret_bool ?_, rfl⟩
        simp [h0, h1]
        by_cases h2 : t < 128
        · simp [h2]; omega
        · by_cases h3 : 255 < t
          · simp [h3]; omega
          · simp [h2, h3]; omega
  go_enter Tryz.func96, Tryz.ntmps96
  by_cases h1 : t = 41
  · subst h1
    go_wp2_with fail
    refine (HS.out _).mono ?_
    rintro e W ⟨rfl, rfl⟩
    go_wp2_with fail
    go_ret
    exact ⟨rfl, rfl⟩
  · have q1 : ((t : Int) == 41) = false := by simp; omega
    go_wp2_with fail
    refine (HS.out _).mono ?_
    rintro e W ⟨rfl, rfl⟩
    have hm : (decide (t ≠ 0) && decide (t ≠ 41) && (decide (t < 128) || decide (255 < t))) = mayT t := by simp [mayT, h1]
    rw [hm]
    cases hmt : mayT t
    all_goals
      go_wp2_with fail
      go_ret
      exact ⟨ret_bool (by rw [hmt]), rfl⟩
/-- Whether so many things are as many as a count says. -/
def fitB (n : Nat) (c : Int) : Bool := if c = -1 then decide (0 < n) else if c = -2 then true else decide ((n : Int) = c)
set_option maxRecDepth 100000 in
set_option maxHeartbeats 1000000 in
theorem pfits_any (n : Nat) (c : Int) (w : World) : Calls Tryz.prog 118 #[.int .i64 n, .int .i64 c] w fun e w' => e = .returned (.bool (fitB n c)) ∧ w' = w := by
  unfold fitB
  by_cases h1 : c = -1
  · subst h1
    rw [if_pos rfl]
    go_enter Tryz.func118, Tryz.ntmps118
    go_wp2_with fail
    go_ret
    exact ⟨ret_bool (by simp), rfl⟩
  rw [if_neg h1]
  have q1 : (c == -1) = false := by simp [h1]
  by_cases h2 : c = -2
  · subst h2
    rw [if_pos rfl]
    go_enter Tryz.func118, Tryz.ntmps118
    go_wp2_with fail
    go_ret
    exact ⟨rfl, rfl⟩
  rw [if_neg h2]
  have q2 : (c == -2) = false := by simp [h2]
  go_enter Tryz.func118, Tryz.ntmps118
  go_wp2_with fail
  go_ret
  exact ⟨ret_bool (by by_cases h : (n : Int) = c <;> simp [h]), rfl⟩
/-- Fields in a block of their own. -/
def FBox (w : World) (b : Nat) (f : Fs) : Prop :=
  w.cell? ⟨b, 0, none⟩ = some (.int .i64 f.nn) ∧ w.cell? ⟨b, 1, none⟩ = some (.int .i64 f.nf) ∧ w.cell? ⟨b, 2, none⟩ = some (.int .i64 f.nu) ∧ w.cell? ⟨b, 3, none⟩ = some (.int .i64 f.wd) ∧ w.cell? ⟨b, 4, none⟩ = some (.int .i64 f.nt) ∧ w.cell? ⟨b, 5, none⟩ = some (.int .i64 f.tg) ∧ w.cell? ⟨b, 6, none⟩ = some (.int .i64 f.tl) ∧ w.cell? ⟨b, 7, none⟩ = some (.int .i64 f.nr) ∧ b < w.heap.size
theorem FBox.new (w : World) (f : Fs) : FBox (w.alloc (.cells #[.int .i64 f.nn, .int .i64 f.nf, .int .i64 f.nu, .int .i64 f.wd, .int .i64 f.nt, .int .i64 f.tg, .int .i64 f.tl, .int .i64 f.nr] 150)) w.heap.size f := by
  refine ⟨?_, ?_, ?_, ?_, ?_, ?_, ?_, ?_, by simp⟩ <;> (unfold World.cell?; rw [heap_alloc_new]; rfl)
theorem FBox.below {w w' : World} {b : Nat} {f : Fs} (h : FBox w b f) (hb : Below w.heap.size w w') : FBox w' b f := by
  obtain ⟨h0, h1, h2, h3, h4, h5, h6, h7, hl⟩ := h
  exact ⟨(hb.cell (p := ⟨b, 0, none⟩) hl).trans h0, (hb.cell (p := ⟨b, 1, none⟩) hl).trans h1, (hb.cell (p := ⟨b, 2, none⟩) hl).trans h2, (hb.cell (p := ⟨b, 3, none⟩) hl).trans h3, (hb.cell (p := ⟨b, 4, none⟩) hl).trans h4, (hb.cell (p := ⟨b, 5, none⟩) hl).trans h5, (hb.cell (p := ⟨b, 6, none⟩) hl).trans h6, (hb.cell (p := ⟨b, 7, none⟩) hl).trans h7, Nat.lt_of_lt_of_le hl hb.size⟩
/-- Fields and data, each in a block of its own. -/
def PtSt (w W : World) (b : Nat) (f : Fs) (x : DA) (d : Dat) : Prop := FBox W b f ∧ DBox W (b + 1) x ∧ DRd W x d ∧ Below w.heap.size w W
theorem PtSt.go {w W W' : World} {b : Nat} {f : Fs} {x : DA} {d : Dat} (h : PtSt w W b f x d) (hb : Below W.heap.size W W') : PtSt w W' b f x d :=
  ⟨h.1.below hb, h.2.1.below hb, h.2.2.1.below hb, h.2.2.2.trans (hb.mono h.2.2.2.size)⟩
theorem PtSt.new (w : World) (f : Fs) (x : DA) (d : Dat) (h : DRd w x d) : PtSt w ((w.alloc (.cells #[.int .i64 f.nn, .int .i64 f.nf, .int .i64 f.nu, .int .i64 f.wd, .int .i64 f.nt, .int .i64 f.tg, .int .i64 f.tl, .int .i64 f.nr] 150)).alloc (.cells #[.slice x.p1.a x.p1.n x.p1.c, .slice x.p2.a x.p2.n x.p2.c, .slice x.p3.a x.p3.n x.p3.c, .slice x.p4.a x.p4.n x.p4.c] 60)) w.heap.size f x d := by
  have hb1 : Below w.heap.size w (w.alloc (.cells #[.int .i64 f.nn, .int .i64 f.nf, .int .i64 f.nu, .int .i64 f.wd, .int .i64 f.nt, .int .i64 f.tg, .int .i64 f.tl, .int .i64 f.nr] 150)) := (Below.refl _ _).alloc (Nat.le_refl _) _
  have HX := FBox.new w f
  have hx1 := h.below hb1
  obtain ⟨W0, hW0⟩ : ∃ W, W = w.alloc (.cells #[.int .i64 f.nn, .int .i64 f.nf, .int .i64 f.nu, .int .i64 f.wd, .int .i64 f.nt, .int .i64 f.tg, .int .i64 f.tl, .int .i64 f.nr] 150) := ⟨_, rfl⟩
  have hs0 : W0.heap.size = w.heap.size + 1 := by rw [hW0]; simp
  rw [← hW0] at hb1 HX hx1 ⊢
  have hb2 : Below W0.heap.size W0 (W0.alloc (.cells #[.slice x.p1.a x.p1.n x.p1.c, .slice x.p2.a x.p2.n x.p2.c, .slice x.p3.a x.p3.n x.p3.c, .slice x.p4.a x.p4.n x.p4.c] 60)) := (Below.refl _ _).alloc (Nat.le_refl _) _
  have HY := DBox.new W0 x
  rw [hs0] at HY
  exact ⟨HX.below hb2, HY, hx1.below hb2, hb1.trans (hb2.mono hb1.size)⟩
/-- Whether data have as many things as fields say. -/
def cntB (f : Fs) (d : Dat) : Bool := fitB d.ns.length f.nn && fitB d.us.length f.nu && fitB d.ts.length f.nt && fitB d.raw.length f.nr
set_option maxRecDepth 100000 in
set_option maxHeartbeats 2000000 in
theorem counted_any (f : Fs) (x : DA) (d : Dat) (w : World) (h : DRd w x d) :
    Calls Tryz.prog 98 #[.agg #[.int .i64 f.nn, .int .i64 f.nf, .int .i64 f.nu, .int .i64 f.wd, .int .i64 f.nt, .int .i64 f.tg, .int .i64 f.tl, .int .i64 f.nr], .agg #[.slice x.p1.a x.p1.n x.p1.c, .slice x.p2.a x.p2.n x.p2.c, .slice x.p3.a x.p3.n x.p3.c, .slice x.p4.a x.p4.n x.p4.c]] w fun e w' => e = .returned (.bool (cntB f d)) ∧ Hid (Below w.heap.size w w') := by
  have H : Hid (PtSt w ((w.alloc (.cells #[.int .i64 f.nn, .int .i64 f.nf, .int .i64 f.nu, .int .i64 f.wd, .int .i64 f.nt, .int .i64 f.tg, .int .i64 f.tl, .int .i64 f.nr] 150)).alloc (.cells #[.slice x.p1.a x.p1.n x.p1.c, .slice x.p2.a x.p2.n x.p2.c, .slice x.p3.a x.p3.n x.p3.c, .slice x.p4.a x.p4.n x.p4.c] 60)) w.heap.size f x d) := PtSt.new w f x d h
  have l1 := h.h1.len
  have l2 := h.h2.len
  have l3 := h.h3.len
  have l4 := h.h4.len
  clear h
  unfold cntB
  rw [l1, l2, l3, l4]
  clear l1 l2 l3 l4
  obtain ⟨nn, nf, nu, wd, nt, tg, tl, nr⟩ := f
  obtain ⟨⟨a1, n1, k1⟩, ⟨a2, n2, k2⟩, ⟨a3, n3, k3⟩, ⟨a4, n4, k4⟩⟩ := x
  simp only at H ⊢
  go_enter Tryz.func98, Tryz.ntmps98
  go_upto_region 1 with fail
  generalize ((w.alloc (.cells #[.int .i64 nn, .int .i64 nf, .int .i64 nu, .int .i64 wd, .int .i64 nt, .int .i64 tg, .int .i64 tl, .int .i64 nr] 150)).alloc (.cells #[.slice a1 n1 k1, .slice a2 n2 k2, .slice a3 n3 k3, .slice a4 n4 k4] 60)) = W1 at *
  have s0 := H.out.1.1
  have s2 := H.out.1.2.2.1
  have s4 := H.out.1.2.2.2.2.1
  have s7 := H.out.1.2.2.2.2.2.2.2.1
  have c0 := H.out.2.1.1
  have c1 := H.out.2.1.2.1
  have c2 := H.out.2.1.2.2.1
  have c3 := H.out.2.1.2.2.2.1
  simp only at s0 s2 s4 s7 c0 c1 c2 c3
  go_wp2_with fail
  refine (pfits_any n1 nn _).mono ?_
  rintro e W ⟨rfl, rfl⟩
  cases hfn1 : fitB n1 nn with
  | false =>
    go_wp2_with fail
    go_ret
    exact ⟨ret_bool (by simp [*]), H.out.2.2.2⟩
  | true =>
    go_wp2_with fail
    refine (pfits_any n2 nu _).mono ?_
    rintro e W ⟨rfl, rfl⟩
    cases hfn2 : fitB n2 nu with
    | false =>
      go_wp2_with fail
      go_ret
      exact ⟨ret_bool (by simp [*]), H.out.2.2.2⟩
    | true =>
      go_wp2_with fail
      refine (pfits_any n3 nt _).mono ?_
      rintro e W ⟨rfl, rfl⟩
      cases hfn3 : fitB n3 nt with
      | false =>
        go_wp2_with fail
        go_ret
        exact ⟨ret_bool (by simp [*]), H.out.2.2.2⟩
      | true =>
        go_wp2_with fail
        refine (pfits_any n4 nr _).mono ?_
        rintro e W ⟨rfl, rfl⟩
        go_wp2_with fail
        go_ret
        exact ⟨ret_bool (by simp [*]), H.out.2.2.2⟩
end Go.Proofs.YtkjnbgekaifdfaaGreat
namespace Go.Proofs.YtkjnbgekaifdfaaGreat
open Go.ChangeShapes Go.WideShapes Go.ChangeAt Go.RowKit
set_option linter.unusedVariables false
set_option linter.unusedSimpArgs false
theorem call155 (s : ByteArray) (c : Int) (w : World) : (callFunc 155 #[.string s, .int .u8 c]).run Tryz.prog w = .ok (.value (.int .i64 (Lib.indexByte s.data.toList c.toNat.toUInt8))) w := by
  rw [run_callFunc_extern Tryz.func155 (by kernel_rfl) (by kernel_rfl) (by kernel_rfl) (by kernel_rfl) _ w]
  show ((Extern.BytealgIndexByte.indexByte #[.string s, .int .u8 c]).run Tryz.prog w).andThen _ = _
  rw [Lib.run_indexByteString]
  rfl
set_option maxRecDepth 100000 in
set_option maxHeartbeats 400000 in
theorem sidx_any (s : ByteArray) (c : Int) (w : World) : Calls Tryz.prog 145 #[.string s, .int .u8 c] w fun e w' => e = .returned (.int .i64 (Lib.indexByte s.data.toList c.toNat.toUInt8)) ∧ w' = w := by
  have h := call155 s c
  go_enter Tryz.func145, Tryz.ntmps145
  go_wp2
  go_ret
  exact ⟨rfl, rfl⟩
set_option maxRecDepth 100000 in
set_option maxHeartbeats 400000 in
theorem idx_any (s : ByteArray) (c : Int) (w : World) : Calls Tryz.prog 132 #[.string s, .int .u8 c] w fun e w' => e = .returned (.int .i64 (Lib.indexByte s.data.toList c.toNat.toUInt8)) ∧ w' = w := by
  go_enter Tryz.func132, Tryz.ntmps132
  go_wp2_with fail
  refine (sidx_any s c _).mono ?_
  rintro e w1 ⟨rfl, rfl⟩
  go_wp2
  go_ret
  exact ⟨rfl, rfl⟩
/-- Letters and digits. -/
def tagged : List UInt8 := [97, 98, 99, 100, 101, 102, 103, 104, 105, 106, 107, 108, 109, 110, 111, 112, 113, 114, 115, 116, 117, 118, 119, 120, 121, 122, 65, 66, 67, 68, 69, 70, 71, 72, 73, 74, 75, 76, 77, 78, 79, 80, 81, 82, 83, 84, 85, 86, 87, 88, 89, 90, 48, 49, 50, 51, 52, 53, 54, 55, 56, 57]
set_option maxRecDepth 100000 in
theorem tagged_idx : ∀ n : Fin 256, decide (Lib.indexByte tagged n.val.toUInt8 < 0) = !alnum (n.val : Int) := by decide +kernel
theorem idx_tag (c : Int) (h0 : 0 ≤ c) (h1 : c ≤ 255) (w : World) : Calls Tryz.prog 132 #[.string { data := #[97, 98, 99, 100, 101, 102, 103, 104, 105, 106, 107, 108, 109, 110, 111, 112, 113, 114, 115, 116, 117, 118, 119, 120, 121, 122, 65, 66, 67, 68, 69, 70, 71, 72, 73, 74, 75, 76, 77, 78, 79, 80, 81, 82, 83, 84, 85, 86, 87, 88, 89, 90, 48, 49, 50, 51, 52, 53, 54, 55, 56, 57] }, .int .u8 c] w fun e w' => ∃ k, e = .returned (.int .i64 k) ∧ Hid (decide (k < 0) = !alnum c) ∧ w' = w := by
  refine (idx_any _ c w).mono ?_
  rintro e w1 ⟨rfl, rfl⟩
  refine ⟨_, rfl, ?_, rfl⟩
  have := tagged_idx ⟨c.toNat, by omega⟩
  simp only at this
  rw [Int.toNat_of_nonneg h0] at this
  exact this
set_option maxRecDepth 100000 in
set_option maxHeartbeats 2000000 in
theorem istag_any (s : ByteArray) (hs : s.size ≤ 9223372036854775807) (w : World) : Calls Tryz.prog 119 #[.string s] w fun e w' => e = .returned (.bool (tagB s)) ∧ w' = w := by
  by_cases h1 : s.size = 0
  · have HE : Hid (tagB s = false) := by show _ = _; simp [tagB]; omega
    have h1' : ((s.size : Int) == 0) = true := by rw [beq_iff_eq]; omega
    go_enter Tryz.func119, Tryz.ntmps119
    go_wp2_with fail
    go_ret
    exact ⟨by rw [HE.out]; rfl, rfl⟩
  · have h1' : ((s.size : Int) == 0) = false := by rw [beq_eq_false_iff_ne]; omega
    by_cases h2 : 15 < s.size
    · have HE : Hid (tagB s = false) := by show _ = _; simp [tagB]; omega
      have h2' : (15 : Int) < (s.size : Int) := by omega
      go_enter Tryz.func119, Tryz.ntmps119
      go_wp2_with fail
      go_ret
      exact ⟨by rw [HE.out]; rfl, rfl⟩
    · have h2' : ¬ (15 : Int) < (s.size : Int) := by omega
      have HT : Hid (tagB s = (nums s).all alnum) := by show _ = _; simp [tagB]; intro _; omega
      go_enter Tryz.func119, Tryz.ntmps119
      go_wp2_with fail
      go_loopw [14] (fun v wr => wr = w ∧ ∃ k : Nat, k ≤ s.size ∧ v = .int .i64 (k : Int) ∧ Hid (∀ z ∈ (nums s).take k, alnum z = true)) (fun v _ => s.size - (intOf v).toNat)
      case atStart => exact ⟨rfl, 0, Nat.zero_le _, rfl, by intro y hy; simp at hy⟩
      case round =>
        obtain ⟨hwr, k, hk, rfl, HF⟩ := hrel
        subst hwr
        by_cases hlt : k < s.size
        · have hlt' : (k : Int) < (s.size : Int) := by omega
          have hbd := nums_bd s k
          have hki : k < (nums s).length := by rw [nums_len]; exact hlt
          have hat := nums_at s k hlt
          rw [hat] at hbd
          have HA : Hid (∃ h : k < (nums s).length, (nums s)[k] = (s[k].toNat : Int)) := by
            refine ⟨hki, ?_⟩
            have : (nums s).getD k 0 = (nums s)[k] := by simp [List.getD_eq_getElem?_getD, hki]
            rw [← this, hat]
          clear hat hki
          obtain ⟨c, hc⟩ : ∃ c : Int, (s[k].toNat : Int) = c := ⟨_, rfl⟩
          rw [hc] at hbd HA
          go_wp2_with fail
          first | simp only [hc] | skip
          refine (idx_tag c hbd.1 hbd.2 _).mono ?_
          rintro e w1 ⟨j, rfl, HJ, rfl⟩
          cases hal : alnum c with
          | true =>
            have HF2 : Hid (∀ z ∈ (nums s).take (k + 1), alnum z = true) := by
              intro z hz
              obtain ⟨hin, hav⟩ := HA.out
              rw [List.take_succ_eq_append_getElem hin] at hz
              simp only [List.mem_append, List.mem_singleton] at hz
              rcases hz with hz | hz
              · exact HF.out z hz
              · subst hz; rw [hav]; exact hal
            have hj : ¬ j < 0 := by have := HJ.out; rw [hal] at this; simpa using this
            clear HF hal HJ
            go_wp2_with fail
            exact ⟨⟨by first | rfl | trivial, k + 1, by omega, by go_num, HF2⟩, by simp [intOf]; omega⟩
          | false =>
            have HE : Hid (tagB s = false) := by
              show _ = _
              rw [HT.out, ← Bool.not_eq_true]
              intro hall
              obtain ⟨hin, hav⟩ := HA.out
              have := List.all_eq_true.1 hall (nums s)[k] (List.getElem_mem hin)
              rw [hav, hal] at this
              cases this
            have hj : j < 0 := by have := HJ.out; rw [hal] at this; simpa using this
            clear HF hal HT HJ
            go_wp2_with fail
            go_ret
            exact ⟨by rw [HE.out]; rfl, rfl⟩
        · have hge : ¬ (k : Int) < (s.size : Int) := by omega
          have HE : Hid (tagB s = true) := by
            have := HF.out
            rw [List.take_of_length_le (by rw [nums_len]; omega)] at this
            show _ = _
            rw [HT.out]
            exact List.all_eq_true.2 this
          clear HF HT
          go_wp2_with fail
          go_ret
          exact ⟨by rw [HE.out]; rfl, rfl⟩
end Go.Proofs.YtkjnbgekaifdfaaGreat
namespace Go.Proofs.YtkjnbgekaifdfaaGreat
open Go.ChangeShapes Go.WideShapes Go.ChangeAt Go.RowKit
set_option linter.unusedVariables false
set_option linter.unusedSimpArgs false
/-- Whether numbers and texts are within their bounds. -/
def wthB (f : Fs) (d : Dat) : Bool := d.us.all (fun n => decide (n / 2 ^ (8 * f.wd) = 0)) && (d.ts.take f.tg).all tagB && (d.ts.take (d.ts.length - f.tl)).all (fun s => decide (s.size ≤ 255))
theorem all_cut {α : Type} (l : List α) (p : α → Bool) (k : Nat) (hk : k < l.length) (h : p l[k] = false) : l.all p = false := by
  rw [← Bool.not_eq_true]
  intro hall
  have := List.all_eq_true.1 hall l[k] (List.getElem_mem hk)
  rw [h] at this
  cases this
theorem all_next {α : Type} (l : List α) (p : α → Bool) (k : Nat) (hk : k < l.length) (h : p l[k] = true) (hf : ∀ z ∈ l.take k, p z = true) : ∀ z ∈ l.take (k + 1), p z = true := by
  intro z hz
  rw [List.take_succ_eq_append_getElem hk] at hz
  simp only [List.mem_append, List.mem_singleton] at hz
  rcases hz with hz | hz
  · exact hf z hz
  · subst hz; exact h
set_option maxRecDepth 100000 in
set_option maxHeartbeats 4000000 in
theorem within_any (f : Fs) (x : DA) (d : Dat) (w : World) (h : DRd w x d) (hwd : f.wd = 0 ∨ f.wd = 1 ∨ f.wd = 2 ∨ f.wd = 4) (htg : f.tg ≤ d.ts.length) (htl : f.tl ≤ d.ts.length) :
    Calls Tryz.prog 99 #[.agg #[.int .i64 f.nn, .int .i64 f.nf, .int .i64 f.nu, .int .i64 f.wd, .int .i64 f.nt, .int .i64 f.tg, .int .i64 f.tl, .int .i64 f.nr], .agg #[.slice x.p1.a x.p1.n x.p1.c, .slice x.p2.a x.p2.n x.p2.c, .slice x.p3.a x.p3.n x.p3.c, .slice x.p4.a x.p4.n x.p4.c]] w fun e w' => e = .returned (.bool (wthB f d)) ∧ Hid (Below w.heap.size w w') := by
  have H : Hid (PtSt w ((w.alloc (.cells #[.int .i64 f.nn, .int .i64 f.nf, .int .i64 f.nu, .int .i64 f.wd, .int .i64 f.nt, .int .i64 f.tg, .int .i64 f.tl, .int .i64 f.nr] 150)).alloc (.cells #[.slice x.p1.a x.p1.n x.p1.c, .slice x.p2.a x.p2.n x.p2.c, .slice x.p3.a x.p3.n x.p3.c, .slice x.p4.a x.p4.n x.p4.c] 60)) w.heap.size f x d) := PtSt.new w f x d h
  have l2 := h.h2.len
  have l3 := h.h3.len
  have HC : Hid (x.p2.n ≤ 9223372036854775807 ∧ x.p3.n ≤ x.p3.c ∧ x.p3.c ≤ 9223372036854775807) := ⟨Nat.le_trans h.h2.cap.1 h.h2.cap.2, h.h3.cap.1, h.h3.cap.2⟩
  clear h
  obtain ⟨nn, nf, nu, wd, nt, tg, tl, nr⟩ := f
  obtain ⟨⟨a1, n1, k1⟩, ⟨a2, n2, k2⟩, ⟨a3, n3, k3⟩, ⟨a4, n4, k4⟩⟩ := x
  simp only at H l2 l3 HC hwd htg htl ⊢
  have hk3 := HC.out.2
  have hn2 := HC.out.1
  have htg' : tg ≤ n3 := by omega
  have htl' : tl ≤ n3 := by omega
  have HW : Hid (wthB ⟨nn, nf, nu, wd, nt, tg, tl, nr⟩ d = (d.us.all (fun n => decide (n / 2 ^ (8 * wd) = 0)) && (d.ts.take tg).all tagB && (d.ts.take (n3 - tl)).all (fun s => decide (s.size ≤ 255)))) := by
    show _ = _
    unfold wthB
    rw [l3]
  have HL : Hid (d.us.length = n2 ∧ d.ts.length = n3) := ⟨l2, l3⟩
  obtain ⟨R, hR⟩ : ∃ R, wthB ⟨nn, nf, nu, wd, nt, tg, tl, nr⟩ d = R := ⟨_, rfl⟩
  rw [hR] at HW ⊢
  clear hR l2 l3 htg htl HC
  go_enter Tryz.func99, Tryz.ntmps99
  go_upto_region 1 with fail
  generalize ((w.alloc (.cells #[.int .i64 nn, .int .i64 nf, .int .i64 nu, .int .i64 wd, .int .i64 nt, .int .i64 tg, .int .i64 tl, .int .i64 nr] 150)).alloc (.cells #[.slice a1 n1 k1, .slice a2 n2 k2, .slice a3 n3 k3, .slice a4 n4 k4] 60)) = W1 at *
  obtain ⟨b, hb⟩ : ∃ b, b = w.heap.size := ⟨_, rfl⟩
  rw [← hb] at H ⊢
  have Hb : Hid (b = w.heap.size) := hb
  clear hb
  have s3 := H.out.1.2.2.2.1
  have c1 := H.out.2.1.2.1
  simp only at s3 c1
  go_wp2_with fail
  go_loopw [14] (fun v wr => wr = W1 ∧ ∃ k : Nat, k ≤ n2 ∧ v = .int .i64 (k : Int) ∧ Hid (∀ z ∈ d.us.take k, decide (z / 2 ^ (8 * wd) = 0) = true)) (fun v _ => n2 - (intOf v).toNat)
  case atStart => exact ⟨rfl, 0, Nat.zero_le _, rfl, by intro y hy; simp at hy⟩
  case round =>
    obtain ⟨hwr, k, hk, rfl, HF⟩ := hrel
    subst hwr
    by_cases hlt : k < n2
    · have hlt' : (k : Int) < (n2 : Int) := by omega
      have hki : k < d.us.length := by rw [HL.out.1]; exact hlt
      obtain ⟨B2, o2, ha2, hl2, hz2⟩ := H.out.2.2.1.h2.at k hki
      have hub := H.out.2.2.1.h2.bd _ (List.getElem_mem hki)
      simp only at ha2
      subst ha2
      have HN : Hid (decide (d.us[k] / 2 ^ (8 * wd) = 0) = true → ∀ z ∈ d.us.take (k + 1), decide (z / 2 ^ (8 * wd) = 0) = true) := fun hh => all_next d.us _ k hki hh HF.out
      have HX : Hid (decide (d.us[k] / 2 ^ (8 * wd) = 0) = false → R = false) := by
        intro hh
        have := HW.out
        rw [all_cut d.us (fun n => decide (n / 2 ^ (8 * wd) = 0)) k hki hh] at this
        simpa using this
      clear HF
      generalize d.us[k] = u at *
      have hq : ∀ m : Nat, ((u : Int) / ((2 ^ m : Nat) : Int)) = ((u / 2 ^ m : Nat) : Int) := by intro m; simp
      by_cases hu : u / 2 ^ (8 * wd) = 0
      · have HF2 := HN.out (decide_eq_true hu)
        have HF3 : Hid (∀ z ∈ d.us.take (k + 1), decide (z / 2 ^ (8 * wd) = 0) = true) := HF2
        clear HF2 HN HX
        rcases hwd with e | e | e | e
        all_goals
          subst e
          simp at hu
          go_wp2_with fail
          exact ⟨⟨by first | rfl | trivial, k + 1, by omega, by go_num, HF3⟩, by simp [intOf]; omega⟩
      · have HE : Hid (R = false) := HX.out (decide_eq_false hu)
        clear HN HX HW
        rcases hwd with e | e | e | e
        all_goals
          subst e
          simp at hu
          first
          | omega
          | (go_wp2_with fail
             go_ret
             exact ⟨by rw [HE.out]; rfl, H.out.2.2.2⟩)
    · have hge : ¬ (k : Int) < (n2 : Int) := by omega
      have HU : Hid (d.us.all (fun n => decide (n / 2 ^ (8 * wd) = 0)) = true) := by
        have := HF.out
        rw [List.take_of_length_le (by rw [HL.out.1]; omega)] at this
        exact List.all_eq_true.2 this
      clear HF
      have s5 := H.out.1.2.2.2.2.2.1
      have c2 := H.out.2.1.2.2.1
      simp only at s5 c2
      clear s3 c1 hwd
      go_wp2_with fail
      obtain ⟨wz, hz⟩ : ∃ z, z = wr := ⟨_, rfl⟩
      subst hz
      go_loopw [31] (fun v wr => wr = wz ∧ ∃ k : Nat, k ≤ tg ∧ v = .int .i64 (k : Int) ∧ Hid (∀ z ∈ (d.ts.take tg).take k, tagB z = true)) (fun v _ => tg - (intOf v).toNat)
      case atStart => exact ⟨rfl, 0, Nat.zero_le _, rfl, by intro y hy; simp at hy⟩
      case round =>
        obtain ⟨hwr, j, hj, rfl, HF⟩ := hrel
        subst hwr
        by_cases hjt : j < tg
        · have hjt' : (j : Int) < (tg : Int) := by omega
          have hji : j < d.ts.length := by rw [HL.out.2]; omega
          have hjj : j < (d.ts.take tg).length := by rw [List.length_take]; omega
          obtain ⟨B3, o3, ha3, hl3, hy3⟩ := H.out.2.2.1.h3.rd.at j hji
          have hsz := H.out.2.2.1.h3.z63 _ (List.getElem_mem hji)
          simp only at ha3
          subst ha3
          have hjs : (d.ts.take tg)[j] = d.ts[j] := by simp
          have HN : Hid (tagB d.ts[j] = true → ∀ z ∈ (d.ts.take tg).take (j + 1), tagB z = true) := fun hh => all_next (d.ts.take tg) tagB j hjj (by rw [hjs]; exact hh) HF.out
          have HX : Hid (tagB d.ts[j] = false → R = false) := by
            intro hh
            have := HW.out
            rw [all_cut (d.ts.take tg) tagB j hjj (by rw [hjs]; exact hh)] at this
            simpa using this
          clear HF hjs hjj
          generalize d.ts[j] = s at *
          go_wp2_with fail
          refine (istag_any s hsz _).mono ?_
          rintro e Wx ⟨rfl, rfl⟩
          cases htb : tagB s with
          | true =>
            have HF2 : Hid (∀ z ∈ (d.ts.take tg).take (j + 1), tagB z = true) := HN.out htb
            clear HN HX htb
            go_wp2_with fail
            exact ⟨⟨by first | rfl | trivial, j + 1, by omega, by go_num, HF2⟩, by simp [intOf]; omega⟩
          | false =>
            have HE : Hid (R = false) := HX.out htb
            clear HN HX htb
            go_wp2_with fail
            go_ret
            exact ⟨by rw [HE.out]; rfl, H.out.2.2.2⟩
        · have hge2 : ¬ (j : Int) < (tg : Int) := by omega
          have HT : Hid ((d.ts.take tg).all tagB = true) := by
            have := HF.out
            rw [List.take_of_length_le (by rw [List.length_take]; omega)] at this
            exact List.all_eq_true.2 this
          clear HF
          have s6 := H.out.1.2.2.2.2.2.2.1
          simp only at s6
          obtain ⟨m, hm⟩ : ∃ m : Nat, m = n3 - tl := ⟨_, rfl⟩
          have hmi : (n3 : Int) - (tl : Int) = (m : Int) := by omega
          have hmw : IntKind.i64.wrap ((n3 : Int) - (tl : Int)) = (m : Int) := by rw [hmi, IntKind.wrap_i64]; omega
          have HM : Hid (m = n3 - tl) := hm
          have hmn : m ≤ n3 := by omega
          clear hm hmi s5
          go_wp2_with fail
          obtain ⟨wy, hz⟩ : ∃ z, z = wr := ⟨_, rfl⟩
          subst hz
          go_loopw [49] (fun v wr => wr = wy ∧ ∃ k : Nat, k ≤ m ∧ v = .int .i64 (k : Int) ∧ Hid (∀ z ∈ (d.ts.take m).take k, decide (z.size ≤ 255) = true)) (fun v _ => m - (intOf v).toNat)
          case atStart => exact ⟨rfl, 0, Nat.zero_le _, rfl, by intro y hy; simp at hy⟩
          case round =>
            obtain ⟨hwr, i, hi, rfl, HF⟩ := hrel
            subst hwr
            by_cases hit : i < m
            · have hit' : (i : Int) < (m : Int) := by omega
              have hii : i < d.ts.length := by rw [HL.out.2]; omega
              have hij : i < (d.ts.take m).length := by rw [List.length_take]; omega
              obtain ⟨B3, o3, ha3, hl3, hy3⟩ := H.out.2.2.1.h3.rd.at i hii
              simp only at ha3
              subst ha3
              have his : (d.ts.take m)[i] = d.ts[i] := by simp
              by_cases hz : (255 : Int) < (d.ts[i].size : Int)
              · have HE : Hid (R = false) := by
                  have := HW.out
                  show R = false
                  rw [← HM.out, all_cut (d.ts.take m) (fun s => decide (s.size ≤ 255)) i hij (by rw [his]; exact decide_eq_false (by omega))] at this
                  simpa using this
                clear HF HW
                generalize d.ts[i] = s at *
                go_wp2_with fail
                go_ret
                exact ⟨by rw [HE.out]; rfl, H.out.2.2.2⟩
              · have HF2 : Hid (∀ z ∈ (d.ts.take m).take (i + 1), decide (z.size ≤ 255) = true) := all_next (d.ts.take m) (fun z => decide (z.size ≤ 255)) i hij (by rw [his]; exact decide_eq_true (by omega)) HF.out
                clear HF his
                generalize d.ts[i] = s at *
                go_wp2_with fail
                exact ⟨⟨by first | rfl | trivial, i + 1, by omega, by go_num, HF2⟩, by simp [intOf]; omega⟩
            · have hge3 : ¬ (i : Int) < (m : Int) := by omega
              have HE : Hid (R = true) := by
                have h1 := HF.out
                rw [List.take_of_length_le (by rw [List.length_take]; omega)] at h1
                have h2 := HW.out
                rw [HU.out, HT.out, ← HM.out, List.all_eq_true.2 h1] at h2
                show R = true
                simpa using h2
              clear HF HW
              go_wp2_with fail
              go_ret
              exact ⟨by rw [HE.out]; rfl, H.out.2.2.2⟩
end Go.Proofs.YtkjnbgekaifdfaaGreat
namespace Go.Proofs.YtkjnbgekaifdfaaGreat
open Go.ChangeShapes Go.WideShapes Go.ChangeAt Go.RowKit
set_option linter.unusedVariables false
set_option linter.unusedSimpArgs false
set_option maxRecDepth 100000 in
set_option maxHeartbeats 1000000 in
theorem psize_eq (a : Option Addr) (len cap : Nat) (ss : List ByteArray) (w : World) (hr : RdT w a ss) (hl : ss.length = len) (hm : nsz ss ≤ 1000000000000000) :
    Calls Tryz.prog 49 #[.slice a len cap] w fun e w' => e = .returned (.int .i64 (nsz ss)) ∧ w' = w := by
  have HR : Hid (RdT w a ss) := hr
  have HL : Hid (ss.length = len) := hl
  have hln : len ≤ 9223372036854775807 := by have := nsz_len ss; omega
  obtain ⟨T, hT⟩ : ∃ T, nsz ss = T := ⟨_, rfl⟩
  have HT : Hid (nsz ss = T) := hT
  rw [hT] at hm ⊢
  clear hr hl hT
  go_enter Tryz.func49, Tryz.ntmps49
  go_wp2_with fail
  go_loop [3, 8] (fun n x => ∃ k m : Nat, k ≤ len ∧ m ≤ T ∧ x = .int .i64 k ∧ n = .int .i64 m ∧ Hid (nsz (ss.take k) = m)) (fun _ x => len - (intOf x).toNat)
  case atStart => exact ⟨0, 1, Nat.zero_le _, by rw [← HT.out]; exact nsz_le ss 0, rfl, rfl, rfl⟩
  case round =>
    obtain ⟨k, m, hk, hmT, rfl, rfl, HM⟩ := hrel
    by_cases hlt : k < len
    · have hlt' : (k : Int) < (len : Int) := by omega
      have hks : k < ss.length := by rw [HL.out]; exact hlt
      obtain ⟨b, o, rfl, hb, hc⟩ := HR.out.at k hks
      have hn : nsz (ss.take (k + 1)) = m + ss[k].size + 1 := by rw [take_snocT ss k hks, nsz_snoc, HM.out]
      have hle := nsz_le ss (k + 1)
      rw [hn, HT.out] at hle
      have HN : Hid (nsz (ss.take (k + 1)) = m + ss[k].size + 1) := hn
      clear hn
      generalize ss[k] = s at *
      go_wp2
      go_round
      case rel => exact ⟨k + 1, m + s.size + 1, by omega, hle, by go_num, by go_num, HN⟩
      case measure => simp [intOf]; omega
    · have hge : (len : Int) ≤ (k : Int) := by omega
      have e : m = T := by rw [← HM.out, ← HT.out, List.take_of_length_le (by rw [HL.out]; omega)]
      subst e
      go_wp2
      go_ret
      exact ⟨rfl, rfl⟩
set_option maxRecDepth 100000 in
set_option maxHeartbeats 1000000 in
theorem pcheck_eq (a : Option Addr) (len cap : Nat) (ss : List ByteArray) (w : World) (hr : RdT w a ss) (hl : ss.length = len) (hm : nsz ss ≤ 1000000000000000) (hlen : len ≤ 9223372036854775807) (hz : ∀ s ∈ ss, s.size ≤ 9223372036854775807) :
    Calls Tryz.prog 42 #[.slice a len cap] w fun e w' => e = .returned (.int .i64 (nck ss)) ∧ w' = w := by
  have HR : Hid (RdT w a ss ∧ ∀ s ∈ ss, s.size ≤ 9223372036854775807) := ⟨hr, hz⟩
  have HL : Hid (ss.length = len) := hl
  have HS : Hid (∀ W, RdT W a ss → Calls Tryz.prog 49 #[.slice a len cap] W fun e w' => e = .returned (.int .i64 (nsz ss)) ∧ w' = W) := fun W hW => psize_eq a len cap ss W hW hl hm
  obtain ⟨T, hT⟩ : ∃ T, nsz ss = T := ⟨_, rfl⟩
  have HT : Hid (nsz ss = T) := hT
  rw [hT] at hm HS
  clear hr hl hT hz
  go_enter Tryz.func42, Tryz.ntmps42
  go_wp2_with fail
  go_loopw [8] (fun x wr => ∃ k : Nat, k ≤ len ∧ x = .int .i64 k ∧ wr = w ∧ Hid (∀ i (h : i < ss.length), i < k → chk ss[i].size = 0)) (fun x _ => len - (intOf x).toNat)
  case atStart => exact ⟨0, Nat.zero_le _, rfl, rfl, fun i _ h => absurd h (by omega)⟩
  case round =>
    obtain ⟨k, hk, rfl, rfl, HK⟩ := hrel
    by_cases hlt : k < len
    · have hlt' : (k : Int) < (len : Int) := by omega
      have hks : k < ss.length := by rw [HL.out]; exact hlt
      obtain ⟨b, o, rfl, hb, hc⟩ := HR.out.1.at k hks
      have HC : Hid (∀ W, Calls Tryz.prog 71 #[.string ss[k]] W fun e w' => e = .returned (.int .i64 (chk ss[k].size)) ∧ w' = W) := fun W => chk_any ss[k] W (HR.out.2 _ (List.getElem_mem hks))
      rcases chk_cases ss[k].size with hk0 | hk4
      · have HN : Hid (∀ i (h : i < ss.length), i < k + 1 → chk ss[i].size = 0) := by
          intro i h hi
          by_cases e : i = k
          · subst e; exact hk0
          · exact HK.out i h (by omega)
        rw [hk0] at HC
        clear hk0 HK
        generalize ss[k] = s at *
        go_wp2_with fail
        refine (HC.out _).mono ?_
        rintro e w1 ⟨rfl, rfl⟩
        go_wp2
        exact ⟨⟨k + 1, by omega, by go_num, trivial, HN⟩, by simp [intOf]; omega⟩
      · have HE : Hid (nck ss = 4) := by
          show nck ss = 4
          unfold nck
          rw [if_neg (fun h => by have := h _ (List.getElem_mem hks); rw [hk4] at this; cases this)]
        rw [hk4] at HC
        clear hk4 HK
        generalize ss[k] = s at *
        go_wp2_with fail
        refine (HC.out _).mono ?_
        rintro e w1 ⟨rfl, rfl⟩
        go_wp2
        go_ret
        exact ⟨by rw [HE.out]; rfl, rfl⟩
    · have hge : (len : Int) ≤ (k : Int) := by omega
      have HO : Hid (labsOk ss) := by
        intro s hs
        obtain ⟨i, hi, rfl⟩ := List.getElem_of_mem hs
        exact HK.out i hi (by have := HL.out; omega)
      by_cases hb : 255 < T
      · have HE : Hid (nck ss = 5) := by show nck ss = 5; unfold nck; rw [if_pos HO.out, HT.out, if_pos hb]
        have hb' : (255 : Int) < (T : Int) := by omega
        clear HK HO
        go_wp2_with fail
        refine (HS.out _ HR.out.1).mono ?_
        rintro e w1 ⟨rfl, rfl⟩
        go_wp2
        go_ret
        exact ⟨by rw [HE.out]; rfl, rfl⟩
      · have HE : Hid (nck ss = 0) := by show nck ss = 0; unfold nck; rw [if_pos HO.out, HT.out, if_neg hb]
        have hb' : ¬ (255 : Int) < (T : Int) := by omega
        clear HK HO
        go_wp2_with fail
        refine (HS.out _ HR.out.1).mono ?_
        rintro e w1 ⟨rfl, rfl⟩
        go_wp2
        go_ret
        exact ⟨by rw [HE.out]; rfl, rfl⟩
theorem pm_check {a : Option Addr} {n : Nat} {ss : List ByteArray} {w : World} (c : Nat) (h : Nm w a n ss) : Calls Tryz.prog 42 #[.slice a n c] w fun e w' => e = .returned (.int .i64 (nck ss)) ∧ w' = w :=
  pcheck_eq a n c ss w h.rd h.len (by have := h.sz; omega) (by have := h.n63; omega) (fun s hs => by have := h.mem s hs; omega)
set_option maxRecDepth 100000 in
set_option maxHeartbeats 800000 in
theorem pcopy_eq (a : Option Addr) (cap len : Nat) (ss : List ByteArray) (M : Nat) (w : World) (hr : RdT w a ss) (hl : ss.length = len) (hM : ∀ s ∈ ss, s.size ≤ M) (hm : len ≤ 8796093022000) :
    Calls Tryz.prog 64 #[.slice a len cap] w (CopyPost ss M w) := by
  have HR : Hid (RdT w a ss ∧ ∀ s ∈ ss, s.size ≤ M) := ⟨hr, hM⟩
  have HL : Hid (ss.length = len) := hl
  clear hr hl hM
  go_enter Tryz.func64, Tryz.ntmps64
  go_wp2_with (at_builtin; refine wpList_append_T tyN _ rfl _ _ 51 9 Tryz.underlying51 rfl w.heap.size _ 0 [] M rfl (OwnT.nil _ _ _) a len cap ss rfl HR.out.1 HL.out HR.out.2 (by omega) (Nat.le_refl _) ?_; intro v' w' ys hO hT hG)
  go_ret
  refine ⟨v', ys, rfl, ?_, ?_, ?_⟩
  · have h := hO.out
    rw [Nat.zero_add, ← HL.out] at h
    exact h
  · have h := hT.out
    rw [Nat.zero_add, ← HL.out] at h
    simpa using h
  · exact (Below.refl _ _).grown hG (Nat.le_refl _) (by intro k hk; cases hk)
end Go.Proofs.YtkjnbgekaifdfaaGreat
namespace Go.Proofs.YtkjnbgekaifdfaaGreat
open Go.ChangeShapes Go.WideShapes Go.ChangeAt Go.RowKit
set_option linter.unusedVariables false
set_option linter.unusedSimpArgs false
theorem sum_snoc' (l : List Nat) (n : Nat) : (l ++ [n]).sum = l.sum + n := by simp
theorem sum_take' (l : List Nat) (k : Nat) : (l.take k).sum ≤ l.sum := by
  induction l generalizing k with
  | nil => simp
  | cons x l ih =>
    cases k with
    | zero => simp
    | succ k => simp; exact ih k
/-- What names and texts add up toq. -/
def nsum (d : Dat) : Nat := (d.ns.map nsz).sum
def tz (s : ByteArray) : Nat := 1 + s.size
def tsum (d : Dat) : Nat := (d.ts.map tz).sum
/-- How many bytes data have, by fields. -/
def pszI (f : Fs) (d : Dat) : Int := ((f.wd * d.us.length : Nat) : Int) + (d.raw.length : Int) - (f.tl : Int) + (nsum d : Int) + (tsum d : Int)
set_option maxRecDepth 100000 in
set_option maxHeartbeats 4000000 in
theorem psize5_any (f : Fs) (x : DA) (d : Dat) (w : World) (h : DRd w x d) (htl : f.tl ≤ 1) (hB : f.wd * d.us.length + d.raw.length + nsum d + tsum d ≤ 1000000000000000) :
    Calls Tryz.prog 100 #[.agg #[.int .i64 f.nn, .int .i64 f.nf, .int .i64 f.nu, .int .i64 f.wd, .int .i64 f.nt, .int .i64 f.tg, .int .i64 f.tl, .int .i64 f.nr], .agg #[.slice x.p1.a x.p1.n x.p1.c, .slice x.p2.a x.p2.n x.p2.c, .slice x.p3.a x.p3.n x.p3.c, .slice x.p4.a x.p4.n x.p4.c]] w fun e w' => e = .returned (.int .i64 (pszI f d)) ∧ Hid (Below w.heap.size w w') := by
  have H : Hid (PtSt w ((w.alloc (.cells #[.int .i64 f.nn, .int .i64 f.nf, .int .i64 f.nu, .int .i64 f.wd, .int .i64 f.nt, .int .i64 f.tg, .int .i64 f.tl, .int .i64 f.nr] 150)).alloc (.cells #[.slice x.p1.a x.p1.n x.p1.c, .slice x.p2.a x.p2.n x.p2.c, .slice x.p3.a x.p3.n x.p3.c, .slice x.p4.a x.p4.n x.p4.c] 60)) w.heap.size f x d) := PtSt.new w f x d h
  have l1 := h.h1.len
  have l2 := h.h2.len
  have l3 := h.h3.len
  have l4 := h.h4.len
  have hc1 : x.p1.n ≤ 9223372036854775807 := Nat.le_trans h.h1.cap.1 h.h1.cap.2
  have hc3 : x.p3.n ≤ 9223372036854775807 := Nat.le_trans h.h3.cap.1 h.h3.cap.2
  clear h
  obtain ⟨nn, nf, nu, wd, nt, tg, tl, nr⟩ := f
  obtain ⟨⟨a1, n1, k1⟩, ⟨a2, n2, k2⟩, ⟨a3, n3, k3⟩, ⟨a4, n4, k4⟩⟩ := x
  simp only at H l1 l2 l3 l4 hc1 hc3 htl hB ⊢
  obtain ⟨Z, hZ⟩ : ∃ Z, pszI ⟨nn, nf, nu, wd, nt, tg, tl, nr⟩ d = Z := ⟨_, rfl⟩
  rw [hZ]
  obtain ⟨P, hP⟩ : ∃ P, wd * n2 = P := ⟨_, rfl⟩
  have HZ : Hid (Z = (P : Int) + (n4 : Int) - (tl : Int) + (nsum d : Int) + (tsum d : Int)) := by
    show Z = _
    rw [← hZ]
    unfold pszI
    rw [l4, l2, hP]
  have hB' : P + n4 + nsum d + tsum d ≤ 1000000000000000 := by rw [← hP, ← l2, ← l4]; exact hB
  have HL : Hid (d.ns.length = n1 ∧ d.ts.length = n3) := ⟨l1, l3⟩
  have hPi : (wd : Int) * (n2 : Int) = (P : Int) := by rw [← hP]; simp
  clear hZ l1 l2 l3 l4 hP hB
  have w1 : IntKind.i64.wrap ((wd : Int) * (n2 : Int)) = (P : Int) := by rw [hPi, IntKind.wrap_i64]; omega
  have w2 : IntKind.i64.wrap ((P : Int) + (n4 : Int)) = (P : Int) + (n4 : Int) := by rw [IntKind.wrap_i64]; omega
  have w2' : IntKind.i64.wrap ((P : Int) + (n4 : Int) - (tl : Int)) = (P : Int) + (n4 : Int) - (tl : Int) := by rw [IntKind.wrap_i64]; omega
  clear hPi
  go_enter Tryz.func100, Tryz.ntmps100
  go_upto_region 1 with fail
  generalize ((w.alloc (.cells #[.int .i64 nn, .int .i64 nf, .int .i64 nu, .int .i64 wd, .int .i64 nt, .int .i64 tg, .int .i64 tl, .int .i64 nr] 150)).alloc (.cells #[.slice a1 n1 k1, .slice a2 n2 k2, .slice a3 n3 k3, .slice a4 n4 k4] 60)) = W1 at *
  obtain ⟨b, hb⟩ : ∃ b, b = w.heap.size := ⟨_, rfl⟩
  rw [← hb] at H ⊢
  have Hb : Hid (b = w.heap.size) := hb
  clear hb
  have s3 := H.out.1.2.2.2.1
  have s6 := H.out.1.2.2.2.2.2.2.1
  have c0 := H.out.2.1.1
  have c1 := H.out.2.1.2.1
  have c3 := H.out.2.1.2.2.2.1
  simp only at s3 s6 c0 c1 c3
  go_wp2_with fail
  clear s3 s6 c1 c3 w1 w2 w2'
  go_loopw [5, 26] (fun v i wr => wr = W1 ∧ ∃ (k : Nat) (A : Int), k ≤ n1 ∧ i = .int .i64 (k : Int) ∧ v = .int .i64 A ∧ (-1 ≤ A ∧ A ≤ 1000000000000000) ∧ Hid (A = (P : Int) + (n4 : Int) - (tl : Int) + ((((d.ns.map nsz).take k).sum : Nat) : Int))) (fun _ i _ => n1 - (intOf i).toNat)
  case atStart => exact ⟨rfl, 0, (P : Int) + (n4 : Int) - (tl : Int), Nat.zero_le _, rfl, by first | rfl | simp, by omega, by show _ = _; simp⟩
  case round =>
    obtain ⟨hwr, k, A, hk, rfl, rfl, hA, HA⟩ := hrel
    subst hwr
    by_cases hlt : k < n1
    · have hlt' : (k : Int) < (n1 : Int) := by omega
      have hki : k < d.ns.length := by rw [HL.out.1]; exact hlt
      obtain ⟨B1, o1, ha1, hl1, z1, hz1, hr1⟩ := H.out.2.2.1.h1.at k hki
      simp only at ha1
      subst ha1
      have hsum : ((d.ns.map nsz).take (k + 1)).sum = ((d.ns.map nsz).take k).sum + nsz d.ns[k] := by
        rw [List.take_succ_eq_append_getElem (by simp; exact hki), sum_snoc']; simp
      have hle : ((d.ns.map nsz).take (k + 1)).sum ≤ nsum d := sum_take' (d.ns.map nsz) (k + 1)
      have hA2 := HA.out
      have HA2 : Hid (A + (nsz d.ns[k] : Int) = (P : Int) + (n4 : Int) - (tl : Int) + ((((d.ns.map nsz).take (k + 1)).sum : Nat) : Int)) := by show _ = _; omega
      have hb2 : A + (nsz d.ns[k] : Int) ≤ 1000000000000000 := by have := HA2.out; omega
      have KS : Hid (∀ W, W = wr → Calls Tryz.prog 49 #[.slice z1.a z1.n z1.c] W fun e w' => e = .returned (.int .i64 (nsz d.ns[k])) ∧ w' = W) := by
        intro W e
        subst e
        exact psize_eq z1.a z1.n z1.c d.ns[k] W hr1.rd hr1.len (by omega)
      clear hsum hle hA2 hr1 HA
      generalize nsz d.ns[k] = q at *
      generalize z1.a = za at *
      generalize z1.n = zn at *
      generalize z1.c = zc at *
      have w3 : IntKind.i64.wrap (A + (q : Int)) = A + (q : Int) := by rw [IntKind.wrap_i64]; omega
      go_wp2_with fail
      refine (KS.out _ rfl).mono ?_
      rintro e Wx ⟨rfl, rfl⟩
      go_wp2_with fail
      refine ⟨⟨by first | rfl | trivial, k + 1, A + (q : Int), by omega, by go_num, by first | rfl | go_num, by omega, HA2⟩, ?_⟩
      simp [intOf]; omega
    · have hge : ¬ (k : Int) < (n1 : Int) := by omega
      have HA1 : Hid (A = (P : Int) + (n4 : Int) - (tl : Int) + (nsum d : Int)) := by
        have := HA.out
        rwa [List.take_of_length_le (by simp; rw [HL.out.1]; omega)] at this
      clear HA
      have c2 := H.out.2.1.2.2.1
      simp only at c2
      clear c0
      go_wp2_with fail
      obtain ⟨wz, hz⟩ : ∃ z, z = wr := ⟨_, rfl⟩
      subst hz
      go_loopw [5, 38] (fun v i wr => wr = wz ∧ ∃ (j : Nat) (B : Int), j ≤ n3 ∧ i = .int .i64 (j : Int) ∧ v = .int .i64 B ∧ (-1 ≤ B ∧ B ≤ 1000000000000000) ∧ Hid (B = A + ((((d.ts.map tz).take j).sum : Nat) : Int))) (fun _ i _ => n3 - (intOf i).toNat)
      case atStart => exact ⟨rfl, 0, A, Nat.zero_le _, rfl, rfl, hA, by show _ = _; simp⟩
      case round =>
        obtain ⟨hwr, j, B, hj, rfl, rfl, hB2, HBB⟩ := hrel
        subst hwr
        by_cases hjt : j < n3
        · have hjt' : (j : Int) < (n3 : Int) := by omega
          have hji : j < d.ts.length := by rw [HL.out.2]; exact hjt
          obtain ⟨B3, o3, ha3, hl3, hy3⟩ := H.out.2.2.1.h3.rd.at j hji
          simp only at ha3
          subst ha3
          have hsum : ((d.ts.map tz).take (j + 1)).sum = ((d.ts.map tz).take j).sum + (1 + d.ts[j].size) := by
            rw [List.take_succ_eq_append_getElem (by simp; exact hji), sum_snoc']; simp [tz]
          have hle : ((d.ts.map tz).take (j + 1)).sum ≤ tsum d := sum_take' _ (j + 1)
          have hA2 := HBB.out
          have hA3 := HA1.out
          have HB3 : Hid (B + (1 + (d.ts[j].size : Int)) = A + ((((d.ts.map tz).take (j + 1)).sum : Nat) : Int)) := by show _ = _; omega
          have hb3 : B + (1 + (d.ts[j].size : Int)) ≤ 1000000000000000 := by have := HB3.out; omega
          clear hsum hle hA2 hA3 HBB
          obtain ⟨s, hs⟩ : ∃ s, s = d.ts[j] := ⟨_, rfl⟩
          rw [← hs] at HB3 hb3 hy3
          clear hs
          have w4 : IntKind.i64.wrap (1 + (s.size : Int)) = 1 + (s.size : Int) := by rw [IntKind.wrap_i64]; omega
          have w5 : IntKind.i64.wrap (B + (1 + (s.size : Int))) = B + (1 + (s.size : Int)) := by rw [IntKind.wrap_i64]; omega
          go_wp2_with fail
          refine ⟨⟨by first | rfl | trivial, j + 1, B + (1 + (s.size : Int)), by omega, by go_num, by first | rfl | go_num, by omega, HB3⟩, ?_⟩
          simp [intOf]; omega
        · have hge2 : ¬ (j : Int) < (n3 : Int) := by omega
          have HE : Hid (Z = B) := by
            have h1 := HBB.out
            rw [List.take_of_length_le (by simp; rw [HL.out.2]; omega)] at h1
            have h2 := HZ.out
            have h3 := HA1.out
            show Z = B
            have h4 : tsum d = (d.ts.map tz).sum := rfl
            omega
          clear HBB HA1
          go_wp2_with fail
          go_ret
          exact ⟨by rw [HE.out]; rfl, H.out.2.2.2⟩
end Go.Proofs.YtkjnbgekaifdfaaGreat
namespace Go.Proofs.YtkjnbgekaifdfaaGreat
open Go.ChangeShapes Go.WideShapes Go.ChangeAt Go.RowKit
set_option linter.unusedVariables false
set_option linter.unusedSimpArgs false
theorem dec_wd (wd : Nat) (h : wd = 1 ∨ wd = 2 ∨ wd = 4) (n : Nat) : decide (n / 2 ^ (8 * wd) = 0) = decide (n ≤ most wd) := by
  apply decide_eq_decide.2
  rcases h with rfl | rfl | rfl <;> simp [most] <;> omega
theorem fitB_ge (n : Nat) (c : Int) (h : 0 ≤ c) : fitB n c = decide ((n : Int) = c) := by
  unfold fitB
  rw [if_neg (by omega), if_neg (by omega)]
theorem nil_of {α : Type} {l : List α} (h : (l.length : Int) = 0) : l = [] := List.eq_nil_of_length_eq_zero (by omega)
set_option maxRecDepth 100000 in
set_option maxHeartbeats 1000000 in
theorem fit_eq (t : Nat) (d : Dat) : (cntB (fs t) d && wthB (fs t) d) = fitsB t d := by
  obtain ⟨ns, us, ts, raw⟩ := d
  rw [Bool.eq_iff_iff]
  unfold cntB wthB fitsB
  rcases fs_cases t with ⟨ht, e⟩ | ⟨ht, e⟩ | ⟨ht, e⟩ | ⟨ht, e⟩ | ⟨ht, e⟩ | ⟨ht, e⟩ | ⟨ht, e⟩ | ⟨ht, e⟩ | ⟨ht, e⟩
  · have es' : shp t = ⟨0, 0, 0, 4, 0⟩ := by subst ht; rfl
    have q1 : t ≠ 16 := by omega
    have q2 : t ≠ 257 := by omega
    rw [e, es']
    simp only [fitB_ge _ ((0 : Nat) : Int) (by omega), fitB_ge _ (0 : Int) (by omega), fitB_ge _ ((1 : Nat) : Int) (by omega), fitB_ge _ (4 : Int) (by omega), fitB_ge _ (16 : Int) (by omega), Bool.and_eq_true, Bool.or_eq_true, decide_eq_true_eq, List.all_eq_true]
    constructor
    · rintro ⟨⟨⟨⟨h1, h2⟩, h3⟩, h4⟩, _⟩
      obtain rfl := nil_of h2
      obtain rfl := nil_of h3
      exact ⟨⟨⟨⟨⟨⟨⟨by omega, rfl⟩, .inr rfl⟩, .inl (by omega)⟩, .inr (by omega)⟩, by simp⟩, .inl q1⟩, .inl q2⟩
    · rintro ⟨⟨⟨⟨⟨⟨⟨h1, h2⟩, h3⟩, _⟩, h4⟩, _⟩, _⟩, _⟩
      obtain rfl := List.eq_nil_of_length_eq_zero h2
      obtain rfl := nil_of (l := ts) (by omega)
      exact ⟨⟨⟨⟨by omega, rfl⟩, rfl⟩, by omega⟩, ⟨by simp, by simp⟩, by simp⟩
  · have es' : shp t = ⟨0, 0, 0, 16, 0⟩ := by subst ht; rfl
    have q1 : t ≠ 16 := by omega
    have q2 : t ≠ 257 := by omega
    rw [e, es']
    simp only [fitB_ge _ ((0 : Nat) : Int) (by omega), fitB_ge _ (0 : Int) (by omega), fitB_ge _ ((1 : Nat) : Int) (by omega), fitB_ge _ (4 : Int) (by omega), fitB_ge _ (16 : Int) (by omega), Bool.and_eq_true, Bool.or_eq_true, decide_eq_true_eq, List.all_eq_true]
    constructor
    · rintro ⟨⟨⟨⟨h1, h2⟩, h3⟩, h4⟩, _⟩
      obtain rfl := nil_of h2
      obtain rfl := nil_of h3
      exact ⟨⟨⟨⟨⟨⟨⟨by omega, rfl⟩, .inr rfl⟩, .inl (by omega)⟩, .inr (by omega)⟩, by simp⟩, .inl q1⟩, .inl q2⟩
    · rintro ⟨⟨⟨⟨⟨⟨⟨h1, h2⟩, h3⟩, _⟩, h4⟩, _⟩, _⟩, _⟩
      obtain rfl := List.eq_nil_of_length_eq_zero h2
      obtain rfl := nil_of (l := ts) (by omega)
      exact ⟨⟨⟨⟨by omega, rfl⟩, rfl⟩, by omega⟩, ⟨by simp, by simp⟩, by simp⟩
  · have es' : shp t = ⟨1, 0, 0, 0, 0⟩ := by rcases ht with rfl | rfl | rfl <;> rfl
    have q1 : t ≠ 16 := by omega
    have q2 : t ≠ 257 := by omega
    rw [e, es']
    simp only [fitB_ge _ ((0 : Nat) : Int) (by omega), fitB_ge _ (0 : Int) (by omega), fitB_ge _ ((1 : Nat) : Int) (by omega), fitB_ge _ (4 : Int) (by omega), fitB_ge _ (16 : Int) (by omega), Bool.and_eq_true, Bool.or_eq_true, decide_eq_true_eq, List.all_eq_true]
    constructor
    · rintro ⟨⟨⟨⟨h1, h2⟩, h3⟩, h4⟩, _⟩
      obtain rfl := nil_of h2
      obtain rfl := nil_of h3
      exact ⟨⟨⟨⟨⟨⟨⟨by omega, rfl⟩, .inr rfl⟩, .inl (by omega)⟩, .inr (by omega)⟩, by simp⟩, .inl q1⟩, .inl q2⟩
    · rintro ⟨⟨⟨⟨⟨⟨⟨h1, h2⟩, h3⟩, _⟩, h4⟩, _⟩, _⟩, _⟩
      obtain rfl := List.eq_nil_of_length_eq_zero h2
      obtain rfl := nil_of (l := ts) (by omega)
      exact ⟨⟨⟨⟨by omega, rfl⟩, rfl⟩, by omega⟩, ⟨by simp, by simp⟩, by simp⟩
  · have es' : shp t = ⟨2, 5, 0, 0, 4⟩ := by subst ht; rfl
    have q1 : t ≠ 16 := by omega
    have q2 : t ≠ 257 := by omega
    have hd := dec_wd 4 (by simp)
    rw [e, es']
    simp only [hd, fitB_ge _ ((0 : Nat) : Int) (by omega), fitB_ge _ (0 : Int) (by omega), fitB_ge _ ((1 : Nat) : Int) (by omega), fitB_ge _ ((2 : Nat) : Int) (by omega), fitB_ge _ ((3 : Nat) : Int) (by omega), fitB_ge _ ((5 : Nat) : Int) (by omega), Bool.and_eq_true, Bool.or_eq_true, decide_eq_true_eq, List.all_eq_true]
    constructor
    · rintro ⟨⟨⟨⟨h1, h2⟩, h3⟩, h4⟩, ⟨h5, _⟩, _⟩
      obtain rfl := nil_of h3
      obtain rfl := nil_of h4
      exact ⟨⟨⟨⟨⟨⟨⟨by omega, by omega⟩, .inr rfl⟩, .inl (by omega)⟩, .inr rfl⟩, h5⟩, .inl q1⟩, .inl q2⟩
    · rintro ⟨⟨⟨⟨⟨⟨⟨h1, h2⟩, h3⟩, _⟩, h4⟩, h5⟩, _⟩, _⟩
      obtain rfl := nil_of (l := ts) (by omega)
      obtain rfl := nil_of (l := raw) (by omega)
      exact ⟨⟨⟨⟨by omega, by omega⟩, rfl⟩, rfl⟩, ⟨h5, by simp⟩, by simp⟩
  · have es' : shp t = ⟨1, 1, 0, 0, 2⟩ := by subst ht; rfl
    have q1 : t ≠ 16 := by omega
    have q2 : t ≠ 257 := by omega
    have hd := dec_wd 2 (by simp)
    rw [e, es']
    simp only [hd, fitB_ge _ ((0 : Nat) : Int) (by omega), fitB_ge _ (0 : Int) (by omega), fitB_ge _ ((1 : Nat) : Int) (by omega), fitB_ge _ ((2 : Nat) : Int) (by omega), fitB_ge _ ((3 : Nat) : Int) (by omega), fitB_ge _ ((5 : Nat) : Int) (by omega), Bool.and_eq_true, Bool.or_eq_true, decide_eq_true_eq, List.all_eq_true]
    constructor
    · rintro ⟨⟨⟨⟨h1, h2⟩, h3⟩, h4⟩, ⟨h5, _⟩, _⟩
      obtain rfl := nil_of h3
      obtain rfl := nil_of h4
      exact ⟨⟨⟨⟨⟨⟨⟨by omega, by omega⟩, .inr rfl⟩, .inl (by omega)⟩, .inr rfl⟩, h5⟩, .inl q1⟩, .inl q2⟩
    · rintro ⟨⟨⟨⟨⟨⟨⟨h1, h2⟩, h3⟩, _⟩, h4⟩, h5⟩, _⟩, _⟩
      obtain rfl := nil_of (l := ts) (by omega)
      obtain rfl := nil_of (l := raw) (by omega)
      exact ⟨⟨⟨⟨by omega, by omega⟩, rfl⟩, rfl⟩, ⟨h5, by simp⟩, by simp⟩
  · have es' : shp t = ⟨1, 3, 0, 0, 2⟩ := by subst ht; rfl
    have q1 : t ≠ 16 := by omega
    have q2 : t ≠ 257 := by omega
    have hd := dec_wd 2 (by simp)
    rw [e, es']
    simp only [hd, fitB_ge _ ((0 : Nat) : Int) (by omega), fitB_ge _ (0 : Int) (by omega), fitB_ge _ ((1 : Nat) : Int) (by omega), fitB_ge _ ((2 : Nat) : Int) (by omega), fitB_ge _ ((3 : Nat) : Int) (by omega), fitB_ge _ ((5 : Nat) : Int) (by omega), Bool.and_eq_true, Bool.or_eq_true, decide_eq_true_eq, List.all_eq_true]
    constructor
    · rintro ⟨⟨⟨⟨h1, h2⟩, h3⟩, h4⟩, ⟨h5, _⟩, _⟩
      obtain rfl := nil_of h3
      obtain rfl := nil_of h4
      exact ⟨⟨⟨⟨⟨⟨⟨by omega, by omega⟩, .inr rfl⟩, .inl (by omega)⟩, .inr rfl⟩, h5⟩, .inl q1⟩, .inl q2⟩
    · rintro ⟨⟨⟨⟨⟨⟨⟨h1, h2⟩, h3⟩, _⟩, h4⟩, h5⟩, _⟩, _⟩
      obtain rfl := nil_of (l := ts) (by omega)
      obtain rfl := nil_of (l := raw) (by omega)
      exact ⟨⟨⟨⟨by omega, by omega⟩, rfl⟩, rfl⟩, ⟨h5, by simp⟩, by simp⟩
  · have es' : shp t = ⟨0, 0, -1, 0, 0⟩ := by subst ht; rfl
    have q2 : t ≠ 257 := by omega
    rw [e, es']
    have f1 : fitB ts.length (-1) = decide (0 < ts.length) := by simp [fitB]
    simp only [f1, fitB_ge _ ((0 : Nat) : Int) (by omega), fitB_ge _ (0 : Int) (by omega), Bool.and_eq_true, Bool.or_eq_true, decide_eq_true_eq, List.all_eq_true]
    constructor
    · rintro ⟨⟨⟨⟨h1, h2⟩, h3⟩, h4⟩, _, h5⟩
      obtain rfl := nil_of h2
      obtain rfl := nil_of h4
      exact ⟨⟨⟨⟨⟨⟨⟨by omega, rfl⟩, .inl (by omega)⟩, .inr (by omega)⟩, .inr rfl⟩, by simp⟩, .inr (by simpa using h5)⟩, .inl q2⟩
    · rintro ⟨⟨⟨⟨⟨⟨⟨h1, h2⟩, h3⟩, h6⟩, h4⟩, h5⟩, h7⟩, _⟩
      obtain rfl := List.eq_nil_of_length_eq_zero h2
      obtain rfl := nil_of (l := raw) (by omega)
      exact ⟨⟨⟨⟨by omega, rfl⟩, by omega⟩, rfl⟩, ⟨by simp, by simp⟩, by have := h7.resolve_left (fun hh => hh ht); simpa using this⟩
  · have es' : shp t = ⟨0, 1, 2, 0, 1⟩ := by subst ht; rfl
    have q1 : t ≠ 16 := by omega
    have hd := dec_wd 1 (by simp)
    rw [e, es']
    simp only [hd, fitB_ge _ ((0 : Nat) : Int) (by omega), fitB_ge _ (0 : Int) (by omega), fitB_ge _ ((1 : Nat) : Int) (by omega), fitB_ge _ (2 : Int) (by omega), Bool.and_eq_true, Bool.or_eq_true, decide_eq_true_eq, List.all_eq_true]
    constructor
    · rintro ⟨⟨⟨⟨h1, h2⟩, h3⟩, h4⟩, ⟨h5, h6⟩, h7⟩
      rcases ts with _ | ⟨a, _ | ⟨b, _ | ⟨c, ts⟩⟩⟩
      · simp at h3
      · simp at h3
      · obtain rfl := nil_of h4
        exact ⟨⟨⟨⟨⟨⟨⟨by omega, by omega⟩, .inr rfl⟩, .inl (by omega)⟩, .inr rfl⟩, h5⟩, .inl q1⟩, .inr (h6 a (by simp))⟩
      · simp at h3; omega
    · rintro ⟨⟨⟨⟨⟨⟨⟨h1, h2⟩, h3⟩, _⟩, h4⟩, h5⟩, _⟩, h8⟩
      rcases ts with _ | ⟨a, _ | ⟨b, _ | ⟨c, ts⟩⟩⟩
      · simp at h3
      · simp at h3
      · obtain rfl := nil_of (l := raw) (by omega)
        have hta : tagB a = true := by have := h8.resolve_left (fun hh => hh ht); simpa using this
        have ha : a.size ≤ 255 := by simp [tagB] at hta; omega
        refine ⟨⟨⟨⟨by omega, by omega⟩, by simp⟩, rfl⟩, ⟨h5, by simp [hta]⟩, by simp [ha]⟩
      · simp at h3; omega
  · obtain ⟨h1, h2, h3, h4, h5, h6, h7, h8, h9, h10⟩ := ht
    have es' : shp t = ⟨0, 0, 0, -1, 0⟩ := by unfold shp; simp [h1, h2, h3, h4, h5, h6, h7, h8, h9, h10]
    rw [e, es']
    have f1 : fitB raw.length (-2) = true := by simp [fitB]
    simp only [f1, fitB_ge _ ((0 : Nat) : Int) (by omega), fitB_ge _ (0 : Int) (by omega), Bool.and_eq_true, Bool.or_eq_true, decide_eq_true_eq, List.all_eq_true]
    constructor
    · rintro ⟨⟨⟨⟨i1, i2⟩, i3⟩, i4⟩, _⟩
      obtain rfl := nil_of i2
      obtain rfl := nil_of i3
      exact ⟨⟨⟨⟨⟨⟨⟨by omega, rfl⟩, .inr rfl⟩, .inl (by omega)⟩, .inl (by omega)⟩, by simp⟩, .inl h9⟩, .inl h10⟩
    · rintro ⟨⟨⟨⟨⟨⟨⟨i1, i2⟩, i3⟩, _⟩, i4⟩, _⟩, _⟩, _⟩
      obtain rfl := List.eq_nil_of_length_eq_zero i2
      obtain rfl := nil_of (l := ts) (by omega)
      exact ⟨⟨⟨⟨by omega, rfl⟩, rfl⟩, trivial⟩, ⟨by simp, by simp⟩, by simp⟩
theorem tsum_nby (l : List ByteArray) : (l.map tz).sum = (nby l).length := by
  induction l with
  | nil => simp [nby]
  | cons a l ih =>
    have e : nby (a :: l) = (a.size : Int) :: (nums a ++ nby l) := by simp [nby]
    rw [e]
    simp [ih, nums_len, tz]
    omega
set_option maxRecDepth 100000 in
set_option maxHeartbeats 1000000 in
theorem psz_eq (t : Nat) (d : Dat) (h : fitsB t d = true) : pszI (fs t) d = (sizesF t d : Nat) := by
  obtain ⟨ns, us, ts, raw⟩ := d
  unfold fitsB at h
  unfold pszI sizesF nsum tsum
  simp only [Bool.and_eq_true, Bool.or_eq_true, decide_eq_true_eq] at h ⊢
  obtain ⟨⟨⟨⟨⟨⟨⟨h1, h2⟩, h3⟩, h6⟩, h4⟩, h5⟩, h7⟩, h8⟩ := h
  have key : (shp t).wd = (fs t).wd ∧ ((((fs t).tl = 0 ∧ t ≠ 257) ∧ (t = 16 ∨ ((shp t).nt = 0))) ∨ ((fs t).tl = 1 ∧ t = 257 ∧ (shp t).nt = 2)) := by
    rcases fs_cases t with ⟨ht, e⟩ | ⟨ht, e⟩ | ⟨ht, e⟩ | ⟨ht, e⟩ | ⟨ht, e⟩ | ⟨ht, e⟩ | ⟨ht, e⟩ | ⟨ht, e⟩ | ⟨ht, e⟩
    · subst ht; exact ⟨rfl, .inl ⟨⟨rfl, by omega⟩, .inr rfl⟩⟩
    · subst ht; exact ⟨rfl, .inl ⟨⟨rfl, by omega⟩, .inr rfl⟩⟩
    · rcases ht with rfl | rfl | rfl <;> exact ⟨rfl, .inl ⟨⟨rfl, by omega⟩, .inr rfl⟩⟩
    · subst ht; exact ⟨rfl, .inl ⟨⟨rfl, by omega⟩, .inr rfl⟩⟩
    · subst ht; exact ⟨rfl, .inl ⟨⟨rfl, by omega⟩, .inr rfl⟩⟩
    · subst ht; exact ⟨rfl, .inl ⟨⟨rfl, by omega⟩, .inr rfl⟩⟩
    · subst ht; exact ⟨rfl, .inl ⟨⟨rfl, by omega⟩, .inl rfl⟩⟩
    · subst ht; exact ⟨rfl, .inr ⟨rfl, rfl, rfl⟩⟩
    · obtain ⟨i1, i2, i3, i4, i5, i6, i7, i8, i9, i10⟩ := ht
      have es' : shp t = ⟨0, 0, 0, -1, 0⟩ := by unfold shp; simp [i1, i2, i3, i4, i5, i6, i7, i8, i9, i10]
      rw [e, es']
      exact ⟨rfl, .inl ⟨⟨rfl, i10⟩, .inr rfl⟩⟩
  obtain ⟨kw, kt⟩ := key
  rw [kw, tsum_nby, Nat.mul_comm us.length]
  rcases kt with ⟨⟨k1, k2⟩, k3⟩ | ⟨k1, k2, k3⟩
  · rw [k1]
    rcases k3 with k3 | k3
    · have : tsz t ts = (nby ts).length := by unfold tsz; rw [if_pos k3]
      rw [this]; omega
    · have hz : ts = [] := nil_of (by omega)
      subst hz
      have : tsz t [] = 0 := by unfold tsz; split <;> simp [nby]
      rw [this]; simp [nby]; omega
  · rw [k1]
    rcases ts with _ | ⟨a, _ | ⟨b, _ | ⟨c, ts⟩⟩⟩
    · simp at h3; omega
    · simp at h3; omega
    · have : tsz t [a, b] = a.size + 1 + b.size := by unfold tsz; rw [if_neg (by omega)]; simp [nums_len]
      rw [this]
      have : (nby [a, b]).length = a.size + 1 + (b.size + 1) := by simp [nby, nums_len]; omega
      rw [this]; omega
    · simp at h3; omega
end Go.Proofs.YtkjnbgekaifdfaaGreat
namespace Go.Proofs.YtkjnbgekaifdfaaGreat
open Go.ChangeShapes Go.WideShapes Go.ChangeAt Go.RowKit
set_option linter.unusedVariables false
set_option linter.unusedSimpArgs false
set_option maxRecDepth 100000 in
set_option maxHeartbeats 1000000 in
theorem pcheck_wide (a : Option Addr) (len cap : Nat) (ss : List ByteArray) (w : World) (hr : RdT w a ss) (hl : ss.length = len) (hm : labsOk ss → nsz ss ≤ 1000000000000000) (hlen : len ≤ 9223372036854775807) (hz : ∀ s ∈ ss, s.size ≤ 9223372036854775807) :
    Calls Tryz.prog 42 #[.slice a len cap] w fun e w' => e = .returned (.int .i64 (nck ss)) ∧ w' = w := by
  have HR : Hid (RdT w a ss ∧ ∀ s ∈ ss, s.size ≤ 9223372036854775807) := ⟨hr, hz⟩
  have HL : Hid (ss.length = len) := hl
  have HS : Hid (labsOk ss → ∀ W, RdT W a ss → Calls Tryz.prog 49 #[.slice a len cap] W fun e w' => e = .returned (.int .i64 (nsz ss)) ∧ w' = W) := fun ho W hW => psize_eq a len cap ss W hW hl (hm ho)
  obtain ⟨T, hT⟩ : ∃ T, nsz ss = T := ⟨_, rfl⟩
  have HT : Hid (nsz ss = T) := hT
  rw [hT] at HS
  clear hr hl hT hz hm
  go_enter Tryz.func42, Tryz.ntmps42
  go_wp2_with fail
  go_loopw [8] (fun x wr => ∃ k : Nat, k ≤ len ∧ x = .int .i64 k ∧ wr = w ∧ Hid (∀ i (h : i < ss.length), i < k → chk ss[i].size = 0)) (fun x _ => len - (intOf x).toNat)
  case atStart => exact ⟨0, Nat.zero_le _, rfl, rfl, fun i _ h => absurd h (by omega)⟩
  case round =>
    obtain ⟨k, hk, rfl, rfl, HK⟩ := hrel
    by_cases hlt : k < len
    · have hlt' : (k : Int) < (len : Int) := by omega
      have hks : k < ss.length := by rw [HL.out]; exact hlt
      obtain ⟨b, o, rfl, hb, hc⟩ := HR.out.1.at k hks
      have HC : Hid (∀ W, Calls Tryz.prog 71 #[.string ss[k]] W fun e w' => e = .returned (.int .i64 (chk ss[k].size)) ∧ w' = W) := fun W => chk_any ss[k] W (HR.out.2 _ (List.getElem_mem hks))
      rcases chk_cases ss[k].size with hk0 | hk4
      · have HN : Hid (∀ i (h : i < ss.length), i < k + 1 → chk ss[i].size = 0) := by
          intro i h hi
          by_cases e : i = k
          · subst e; exact hk0
          · exact HK.out i h (by omega)
        rw [hk0] at HC
        clear hk0 HK
        generalize ss[k] = s at *
        go_wp2_with fail
        refine (HC.out _).mono ?_
        rintro e w1 ⟨rfl, rfl⟩
        go_wp2
        exact ⟨⟨k + 1, by omega, by go_num, trivial, HN⟩, by simp [intOf]; omega⟩
      · have HE : Hid (nck ss = 4) := by
          show nck ss = 4
          unfold nck
          rw [if_neg (fun h => by have := h _ (List.getElem_mem hks); rw [hk4] at this; cases this)]
        rw [hk4] at HC
        clear hk4 HK
        generalize ss[k] = s at *
        go_wp2_with fail
        refine (HC.out _).mono ?_
        rintro e w1 ⟨rfl, rfl⟩
        go_wp2
        go_ret
        exact ⟨by rw [HE.out]; rfl, rfl⟩
    · have hge : (len : Int) ≤ (k : Int) := by omega
      have HO : Hid (labsOk ss) := by
        intro s hs
        obtain ⟨i, hi, rfl⟩ := List.getElem_of_mem hs
        exact HK.out i hi (by have := HL.out; omega)
      by_cases hb : 255 < T
      · have HE : Hid (nck ss = 5) := by show nck ss = 5; unfold nck; rw [if_pos HO.out, HT.out, if_pos hb]
        have hb' : (255 : Int) < (T : Int) := by omega
        clear HK
        go_wp2_with fail
        refine (HS.out HO.out _ HR.out.1).mono ?_
        rintro e w1 ⟨rfl, rfl⟩
        go_wp2
        go_ret
        exact ⟨by rw [HE.out]; rfl, rfl⟩
      · have HE : Hid (nck ss = 0) := by show nck ss = 0; unfold nck; rw [if_pos HO.out, HT.out, if_neg hb]
        have hb' : ¬ (255 : Int) < (T : Int) := by omega
        clear HK
        go_wp2_with fail
        refine (HS.out HO.out _ HR.out.1).mono ?_
        rintro e w1 ⟨rfl, rfl⟩
        go_wp2
        go_ret
        exact ⟨by rw [HE.out]; rfl, rfl⟩
end Go.Proofs.YtkjnbgekaifdfaaGreat
namespace Go.Proofs.YtkjnbgekaifdfaaGreat
open Go.ChangeShapes Go.WideShapes Go.ChangeAt Go.RowKit
set_option linter.unusedVariables false
set_option linter.unusedSimpArgs false
theorem nsErr_drop' (l : List (List ByteArray)) (k : Nat) (h : ∀ n ∈ l.take k, nck n = 0) : nsErr l = nsErr (l.drop k) := by
  induction l generalizing k with
  | nil => simp
  | cons x l ih =>
    cases k with
    | zero => simp
    | succ k =>
      have h0 : nck x = 0 := h x (by simp)
      simp only [nsErr, List.drop_succ_cons]
      rw [if_pos h0]
      exact ih k (fun n hn => h n (by simp [hn]))
/-- Data within what a machine can add up. -/
structure Bd (d : Dat) : Prop where
  n : d.ns.length ≤ 1000
  nl : ∀ x ∈ d.ns, x.length ≤ 1000000
  u : d.us.length ≤ 1000
  t : tsum d ≤ 1000000000000
  r : d.raw.length ≤ 1000000000000
theorem sum_le (l : List Nat) (m : Nat) (h : ∀ x ∈ l, x ≤ m) : l.sum ≤ l.length * m := by
  induction l with
  | nil => simp
  | cons a l ih =>
    have h1 := h a (by simp)
    have h2 := ih (fun x hx => h x (by simp [hx]))
    simp only [List.sum_cons, List.length_cons, Nat.succ_mul]
    omega
theorem Small.bd {d : Dat} (h : Small d) : Bd d := by
  have h1 := h.n
  have h2 := h.u
  have h3 := h.r
  refine ⟨by omega, fun x hx => by have := h.nl x hx; omega, by omega, ?_, by omega⟩
  have h4 := sum_le (d.ts.map tz) 301 (by
    intro x hx
    obtain ⟨s, hs, rfl⟩ := List.mem_map.1 hx
    have := h.tl s hs
    simp only [tz]; omega)
  have h5 := h.t
  rw [List.length_map] at h4
  have h6 : d.ts.length * 301 ≤ 300 * 301 := Nat.mul_le_mul_right _ h5
  unfold tsum
  omega
theorem nsz_labs (ss : List ByteArray) (h : labsOk ss) : nsz ss ≤ 64 * ss.length + 1 := by
  have h1 : (nby ss).length ≤ 64 * ss.length := by
    induction ss with
    | nil => simp [nby]
    | cons a l ih =>
      have e : nby (a :: l) = (a.size : Int) :: (nums a ++ nby l) := by simp [nby]
      have h0 := h a (by simp)
      have h2 := ih (fun x hx => h x (by simp [hx]))
      have h3 : a.size ≤ 63 := by unfold chk at h0; split at h0 <;> simp_all <;> omega
      rw [e]
      simp [nums_len]
      omega
  have := nby_len ss
  omega
theorem nsErr_zero {l : List (List ByteArray)} (h : nsErr l = 0) : ∀ n ∈ l, nck n = 0 := by
  induction l with
  | nil => simp
  | cons a l ih =>
    simp only [nsErr] at h
    by_cases ha : nck a = 0
    · rw [if_pos ha] at h
      intro n hn
      rcases List.mem_cons.1 hn with rfl | hn
      · exact ha
      · exact ih h n hn
    · rw [if_neg ha] at h; exact absurd h ha
theorem fs_wd (t : Nat) : (fs t).wd = 0 ∨ (fs t).wd = 1 ∨ (fs t).wd = 2 ∨ (fs t).wd = 4 := by
  rcases fs_cases t with ⟨_, e⟩ | ⟨_, e⟩ | ⟨_, e⟩ | ⟨_, e⟩ | ⟨_, e⟩ | ⟨_, e⟩ | ⟨_, e⟩ | ⟨_, e⟩ | ⟨_, e⟩ <;> rw [e] <;> simp
theorem fs_tl (t : Nat) : (fs t).tl ≤ 1 := by
  rcases fs_cases t with ⟨_, e⟩ | ⟨_, e⟩ | ⟨_, e⟩ | ⟨_, e⟩ | ⟨_, e⟩ | ⟨_, e⟩ | ⟨_, e⟩ | ⟨_, e⟩ | ⟨_, e⟩ <;> rw [e] <;> simp
theorem fs_tags (t : Nat) (d : Dat) (h : cntB (fs t) d = true) : (fs t).tg ≤ d.ts.length ∧ (fs t).tl ≤ d.ts.length := by
  unfold cntB at h
  simp only [Bool.and_eq_true] at h
  obtain ⟨⟨⟨_, _⟩, h⟩, _⟩ := h
  rcases fs_cases t with ⟨_, e⟩ | ⟨_, e⟩ | ⟨_, e⟩ | ⟨_, e⟩ | ⟨_, e⟩ | ⟨_, e⟩ | ⟨_, e⟩ | ⟨_, e⟩ | ⟨_, e⟩ <;> rw [e] at h ⊢ <;> simp
  simp only at h
  rw [fitB_ge _ _ (by omega)] at h
  simp at h
  omega
/-- Data and fields, each in a block of its own, the one at b, the other at g. -/
def PkSt (w W : World) (b g : Nat) (f : Fs) (x : DA) (d : Dat) : Prop := DBox W b x ∧ FBox W g f ∧ DRd W x d ∧ Below w.heap.size w W
theorem PkSt.go {w W W' : World} {b g : Nat} {f : Fs} {x : DA} {d : Dat} (h : PkSt w W b g f x d) (hb : Below W.heap.size W W') : PkSt w W' b g f x d :=
  ⟨h.1.below hb, h.2.1.below hb, h.2.2.1.below hb, h.2.2.2.trans (hb.mono h.2.2.2.size)⟩
theorem PkSt.new {w W : World} {b : Nat} (f : Fs) {x : DA} {d : Dat} (h1 : DBox W b x) (h2 : DRd W x d) (h3 : Below w.heap.size w W) : PkSt w (W.alloc (.cells #[.int .i64 f.nn, .int .i64 f.nf, .int .i64 f.nu, .int .i64 f.wd, .int .i64 f.nt, .int .i64 f.tg, .int .i64 f.tl, .int .i64 f.nr] 150)) b W.heap.size f x d := by
  have hb : Below W.heap.size W (W.alloc (.cells #[.int .i64 f.nn, .int .i64 f.nf, .int .i64 f.nu, .int .i64 f.wd, .int .i64 f.nt, .int .i64 f.tg, .int .i64 f.tl, .int .i64 f.nr] 150)) := (Below.refl _ _).alloc (Nat.le_refl _) _
  exact ⟨h1.below hb, FBox.new W f, h2.below hb, h3.trans (hb.mono h3.size)⟩
set_option maxRecDepth 100000 in
set_option maxHeartbeats 4000000 in
theorem check_any (t : Nat) (x : DA) (d : Dat) (w : World) (h : DRd w x d) (hB : Bd d) :
    Calls Tryz.prog 72 #[.int .u16 t, .agg #[.slice x.p1.a x.p1.n x.p1.c, .slice x.p2.a x.p2.n x.p2.c, .slice x.p3.a x.p3.n x.p3.c, .slice x.p4.a x.p4.n x.p4.c]] w fun e w' => e = .returned (.int .i64 (checkF t d)) ∧ Hid (Below w.heap.size w w') := by
  have hb0 : Below w.heap.size w (w.alloc (.cells #[.slice x.p1.a x.p1.n x.p1.c, .slice x.p2.a x.p2.n x.p2.c, .slice x.p3.a x.p3.n x.p3.c, .slice x.p4.a x.p4.n x.p4.c] 60)) := (Below.refl _ _).alloc (Nat.le_refl _) _
  have H : Hid (DBox (w.alloc (.cells #[.slice x.p1.a x.p1.n x.p1.c, .slice x.p2.a x.p2.n x.p2.c, .slice x.p3.a x.p3.n x.p3.c, .slice x.p4.a x.p4.n x.p4.c] 60)) w.heap.size x ∧ DRd (w.alloc (.cells #[.slice x.p1.a x.p1.n x.p1.c, .slice x.p2.a x.p2.n x.p2.c, .slice x.p3.a x.p3.n x.p3.c, .slice x.p4.a x.p4.n x.p4.c] 60)) x d ∧ Below w.heap.size w (w.alloc (.cells #[.slice x.p1.a x.p1.n x.p1.c, .slice x.p2.a x.p2.n x.p2.c, .slice x.p3.a x.p3.n x.p3.c, .slice x.p4.a x.p4.n x.p4.c] 60))) := ⟨DBox.new w x, h.below hb0, hb0⟩
  have KC : Hid (∀ W, DRd W x d → Calls Tryz.prog 98 #[.agg #[.int .i64 (fs t).nn, .int .i64 (fs t).nf, .int .i64 (fs t).nu, .int .i64 (fs t).wd, .int .i64 (fs t).nt, .int .i64 (fs t).tg, .int .i64 (fs t).tl, .int .i64 (fs t).nr], .agg #[.slice x.p1.a x.p1.n x.p1.c, .slice x.p2.a x.p2.n x.p2.c, .slice x.p3.a x.p3.n x.p3.c, .slice x.p4.a x.p4.n x.p4.c]] W fun e w' => e = .returned (.bool (cntB (fs t) d)) ∧ Hid (Below W.heap.size W w')) := fun W hd => counted_any (fs t) x d W hd
  have KW : Hid (cntB (fs t) d = true → ∀ W, DRd W x d → Calls Tryz.prog 99 #[.agg #[.int .i64 (fs t).nn, .int .i64 (fs t).nf, .int .i64 (fs t).nu, .int .i64 (fs t).wd, .int .i64 (fs t).nt, .int .i64 (fs t).tg, .int .i64 (fs t).tl, .int .i64 (fs t).nr], .agg #[.slice x.p1.a x.p1.n x.p1.c, .slice x.p2.a x.p2.n x.p2.c, .slice x.p3.a x.p3.n x.p3.c, .slice x.p4.a x.p4.n x.p4.c]] W fun e w' => e = .returned (.bool (wthB (fs t) d)) ∧ Hid (Below W.heap.size W w')) := fun hc W hd => within_any (fs t) x d W hd (fs_wd t) (fs_tags t d hc).1 (fs_tags t d hc).2
  have KZ : Hid (cntB (fs t) d = true → wthB (fs t) d = true → nsErr d.ns = 0 → ∀ W, DRd W x d → Calls Tryz.prog 100 #[.agg #[.int .i64 (fs t).nn, .int .i64 (fs t).nf, .int .i64 (fs t).nu, .int .i64 (fs t).wd, .int .i64 (fs t).nt, .int .i64 (fs t).tg, .int .i64 (fs t).tl, .int .i64 (fs t).nr], .agg #[.slice x.p1.a x.p1.n x.p1.c, .slice x.p2.a x.p2.n x.p2.c, .slice x.p3.a x.p3.n x.p3.c, .slice x.p4.a x.p4.n x.p4.c]] W fun e w' => e = .returned (.int .i64 (sizesF t d : Nat)) ∧ Hid (Below W.heap.size W w')) := by
    intro h1 h2 h3 W hd
    have h4 : fitsB t d = true := by rw [← fit_eq, h1, h2]; rfl
    rw [← psz_eq t d h4]
    refine psize5_any (fs t) x d W hd (fs_tl t) ?_
    have h5 : nsum d ≤ 1000 * 255 := by
      have := sum_le (d.ns.map nsz) 255 (by
        intro y hy
        obtain ⟨n, hn, rfl⟩ := List.mem_map.1 hy
        exact (nck_small (nsErr_zero h3 n hn)).1)
      rw [List.length_map] at this
      have h6 : d.ns.length * 255 ≤ 1000 * 255 := Nat.mul_le_mul_right _ hB.n
      unfold nsum
      omega
    have h7 : (fs t).wd * d.us.length ≤ 4 * 1000 := Nat.mul_le_mul (by have := fs_wd t; omega) hB.u
    have h8 := hB.t
    have h9 := hB.r
    omega
  have KO : Hid (∀ W, Calls Tryz.prog 97 #[.int .u16 t] W fun e w' => e = .returned (.agg #[.int .i64 (fs t).nn, .int .i64 (fs t).nf, .int .i64 (fs t).nu, .int .i64 (fs t).wd, .int .i64 (fs t).nt, .int .i64 (fs t).tg, .int .i64 (fs t).tl, .int .i64 (fs t).nr]) ∧ Hid (Below W.heap.size W w')) := fun W => fieldsof_any t W
  have hc1 : x.p1.n ≤ 9223372036854775807 := Nat.le_trans h.h1.cap.1 h.h1.cap.2
  have HL : Hid (d.ns.length = x.p1.n) := h.h1.len
  have HNB : Hid (∀ n ∈ d.ns, labsOk n → nsz n ≤ 1000000000000000) := by
    intro n hn hl
    have h1 := nsz_labs n hl
    have h2 := hB.nl n hn
    omega
  have HQ : Hid (checkF t d = if mayT t then (if (cntB (fs t) d && wthB (fs t) d) then (if nsErr d.ns = 0 then (if 65535 < sizesF t d then 3 else 0) else nsErr d.ns) else 7) else 6) := by
    show _ = _
    rw [fit_eq]
    rfl
  obtain ⟨C, hC⟩ : ∃ C, checkF t d = C := ⟨_, rfl⟩
  rw [hC] at HQ ⊢
  have KH : Hid (∀ W, Calls Tryz.prog 96 #[.int .u16 t] W fun e w' => e = .returned (.bool (mayT t)) ∧ w' = W) := fun W => hasdata_any t W
  clear hC h hb0 hB
  generalize hmay : mayT t = mt at *
  generalize hcnt : cntB (fs t) d = ct at *
  generalize hwth : wthB (fs t) d = wt at *
  generalize (fs t) = f at *
  generalize hsz : sizesF t d = sz at *
  clear hmay hcnt hwth hsz
  obtain ⟨nn, nf, nu, wd, nt, tg, tl, nr⟩ := f
  obtain ⟨⟨a1, n1, k1⟩, ⟨a2, n2, k2⟩, ⟨a3, n3, k3⟩, ⟨a4, n4, k4⟩⟩ := x
  simp only at H KC KW KZ KO hc1 HL ⊢
  go_enter Tryz.func72, Tryz.ntmps72
  go_wp2_with fail
  generalize (w.alloc (.cells #[.slice a1 n1 k1, .slice a2 n2 k2, .slice a3 n3 k3, .slice a4 n4 k4] 60)) = W1 at *
  obtain ⟨b, hb⟩ : ∃ b, b = w.heap.size := ⟨_, rfl⟩
  rw [← hb] at H ⊢
  have Hb : Hid (b = w.heap.size) := hb
  clear hb
  refine (KH.out W1).mono ?_
  rintro e W1 ⟨rfl, rfl⟩
  clear KH
  cases mt with
  | false =>
    have HE : Hid (C = 6) := by show C = 6; have := HQ.out; simpa using this
    clear HQ KC KW KZ KO
    go_wp2_with fail
    go_ret
    exact ⟨by rw [HE.out]; rfl, by have := H.out.2.2; rw [Hb.out] at this; exact this⟩
  | true =>
  go_wp2_with fail
  refine (KO.out W1).mono ?_
  rintro e W2 ⟨rfl, H2⟩
  have H3 : Hid (PkSt w (W2.alloc (.cells #[.int .i64 nn, .int .i64 nf, .int .i64 nu, .int .i64 wd, .int .i64 nt, .int .i64 tg, .int .i64 tl, .int .i64 nr] 150)) b W2.heap.size ⟨nn, nf, nu, wd, nt, tg, tl, nr⟩ ⟨⟨a1, n1, k1⟩, ⟨a2, n2, k2⟩, ⟨a3, n3, k3⟩, ⟨a4, n4, k4⟩⟩ d) := PkSt.new ⟨nn, nf, nu, wd, nt, tg, tl, nr⟩ (H.out.1.below H2.out) (H.out.2.1.below H2.out) (by have := H.out.2.2; rw [Hb.out] at this; exact this.trans (H2.out.mono this.size))
  clear H H2 KO
  go_upto_region 4 with fail
  generalize (W2.alloc (.cells #[.int .i64 nn, .int .i64 nf, .int .i64 nu, .int .i64 wd, .int .i64 nt, .int .i64 tg, .int .i64 tl, .int .i64 nr] 150)) = W3 at *
  generalize W2.heap.size = g at *
  obtain ⟨s0, s1, s2, s3, s4, s5, s6, s7, _⟩ := H3.out.2.1
  have c0 := H3.out.1.1
  have c1 := H3.out.1.2.1
  have c2 := H3.out.1.2.2.1
  have c3 := H3.out.1.2.2.2.1
  simp only at s0 s1 s2 s3 s4 s5 s6 s7 c0 c1 c2 c3
  go_wp2_with fail
  refine (KC.out W3 H3.out.2.2.1).mono ?_
  rintro e W4 ⟨rfl, H4⟩
  have H5 : Hid (PkSt w W4 b g ⟨nn, nf, nu, wd, nt, tg, tl, nr⟩ ⟨⟨a1, n1, k1⟩, ⟨a2, n2, k2⟩, ⟨a3, n3, k3⟩, ⟨a4, n4, k4⟩⟩ d) := H3.out.go H4.out
  clear H3 H4 KC s0 s1 s2 s3 s4 s5 s6 s7 c0 c1 c2 c3
  cases ct with
  | false =>
    have HE : Hid (C = 7) := by show C = 7; have := HQ.out; simpa using this
    clear HQ KZ KW
    go_wp2_with fail
    go_ret
    exact ⟨by rw [HE.out]; rfl, H5.out.2.2.2⟩
  | true =>
  obtain ⟨s0, s1, s2, s3, s4, s5, s6, s7, _⟩ := H5.out.2.1
  have c0 := H5.out.1.1
  have c1 := H5.out.1.2.1
  have c2 := H5.out.1.2.2.1
  have c3 := H5.out.1.2.2.2.1
  simp only at s0 s1 s2 s3 s4 s5 s6 s7 c0 c1 c2 c3
  go_wp2_with fail
  refine (KW.out (by trivial) W4 H5.out.2.2.1).mono ?_
  rintro e W5 ⟨rfl, H4⟩
  have H6 : Hid (PkSt w W5 b g ⟨nn, nf, nu, wd, nt, tg, tl, nr⟩ ⟨⟨a1, n1, k1⟩, ⟨a2, n2, k2⟩, ⟨a3, n3, k3⟩, ⟨a4, n4, k4⟩⟩ d) := H5.out.go H4.out
  clear H5 H4 KW s0 s1 s2 s3 s4 s5 s6 s7 c0 c1 c2 c3
  cases wt with
  | false =>
    have HE : Hid (C = 7) := by show C = 7; have := HQ.out; simpa using this
    clear HQ KZ
    go_wp2_with fail
    go_ret
    exact ⟨by rw [HE.out]; rfl, H6.out.2.2.2⟩
  | true =>
  have HQ2 : Hid (C = if nsErr d.ns = 0 then (if 65535 < sz then 3 else 0) else nsErr d.ns) := by show C = _; have := HQ.out; simpa using this
  clear HQ
  have c0 := H6.out.1.1
  simp only at c0
  go_wp2_with fail
  go_loopw [27] (fun i wr => wr = W5 ∧ ∃ k : Nat, k ≤ n1 ∧ i = .int .i64 (k : Int) ∧ Hid (∀ n ∈ d.ns.take k, nck n = 0)) (fun i _ => n1 - (intOf i).toNat)
  case atStart => exact ⟨rfl, 0, Nat.zero_le _, rfl, by intro n hn; simp at hn⟩
  case round =>
    obtain ⟨hwr, k, hk, rfl, HA⟩ := hrel
    subst hwr
    by_cases hlt : k < n1
    · have hlt' : (k : Int) < (n1 : Int) := by omega
      have hki : k < d.ns.length := by rw [HL.out]; exact hlt
      obtain ⟨B1, o1, ha1, hl1, z1, hz1, hr1⟩ := H6.out.2.2.1.h1.at k hki
      simp only at ha1
      subst ha1
      have HD : Hid (nsErr d.ns = if nck d.ns[k] = 0 then nsErr (d.ns.drop (k + 1)) else nck d.ns[k]) := by
        show _ = _
        rw [nsErr_drop' d.ns k HA.out, List.drop_eq_getElem_cons hki]
        rfl
      have HA2 : Hid (nck d.ns[k] = 0 → ∀ n ∈ d.ns.take (k + 1), nck n = 0) := by
        intro h0 n hn
        rw [List.take_succ_eq_append_getElem hki] at hn
        simp only [List.mem_append, List.mem_singleton] at hn
        rcases hn with hn | rfl
        · exact HA.out n hn
        · exact h0
      have KC : Hid (∀ W, W = wr → Calls Tryz.prog 42 #[.slice z1.a z1.n z1.c] W fun e w' => e = .returned (.int .i64 (nck d.ns[k])) ∧ w' = W) := by
        intro W e
        subst e
        exact pcheck_wide z1.a z1.n z1.c d.ns[k] W hr1.rd hr1.len (HNB.out _ (List.getElem_mem _)) (Nat.le_trans hr1.cap.1 hr1.cap.2) hr1.z63
      clear hr1 HA
      generalize nck d.ns[k] = q at *
      generalize z1.a = za at *
      generalize z1.n = zn at *
      generalize z1.c = zc at *
      by_cases hq : q = 0
      · have hq' : (q != 0) = false := by simp [hq]
        have HA3 := HA2.out hq
        have HA4 : Hid (∀ n ∈ d.ns.take (k + 1), nck n = 0) := HA3
        clear HA3 HA2 HD hq
        go_wp2_with fail
        refine (KC.out _ rfl).mono ?_
        rintro e Wx ⟨rfl, rfl⟩
        go_wp2_with fail
        refine ⟨⟨by first | rfl | trivial, k + 1, by omega, by go_num, HA4⟩, ?_⟩
        simp [intOf]; omega
      · have hq' : (q != 0) = true := by simp [hq]
        have HE : Hid (C = q) := by
          have h1 := HQ2.out
          have h2 := HD.out
          rw [if_neg hq] at h2
          rw [h2, if_neg hq] at h1
          exact h1
        clear HA2 HD hq HQ2
        go_wp2_with fail
        refine (KC.out _ rfl).mono ?_
        rintro e Wx ⟨rfl, rfl⟩
        go_wp2_with fail
        go_ret
        exact ⟨by rw [HE.out]; rfl, H6.out.2.2.2⟩
    · have hge : ¬ (k : Int) < (n1 : Int) := by omega
      have HN : Hid (nsErr d.ns = 0) := by
        have h1 := HA.out
        rw [List.take_of_length_le (by rw [HL.out]; show n1 ≤ k; omega)] at h1
        have := nsErr_drop' d.ns d.ns.length (by rw [List.take_of_length_le (Nat.le_refl _)]; exact h1)
        rw [List.drop_length] at this
        exact this
      have HE : Hid (C = if 65535 < sz then 3 else 0) := by
        have h1 := HQ2.out
        rw [if_pos HN.out] at h1
        exact h1
      have KZ2 : Hid (∀ W, DRd W ⟨⟨a1, n1, k1⟩, ⟨a2, n2, k2⟩, ⟨a3, n3, k3⟩, ⟨a4, n4, k4⟩⟩ d → Calls Tryz.prog 100 #[.agg #[.int .i64 nn, .int .i64 nf, .int .i64 nu, .int .i64 wd, .int .i64 nt, .int .i64 tg, .int .i64 tl, .int .i64 nr], .agg #[.slice a1 n1 k1, .slice a2 n2 k2, .slice a3 n3 k3, .slice a4 n4 k4]] W fun e w' => e = .returned (.int .i64 (sz : Nat)) ∧ Hid (Below W.heap.size W w')) := KZ.out (by trivial) (by trivial) HN.out
      clear HA HN KZ HQ2
      obtain ⟨s0, s1, s2, s3, s4, s5, s6, s7, _⟩ := H6.out.2.1
      have c1 := H6.out.1.2.1
      have c2 := H6.out.1.2.2.1
      have c3 := H6.out.1.2.2.2.1
      simp only at s0 s1 s2 s3 s4 s5 s6 s7 c1 c2 c3
      go_wp2_with fail
      refine (KZ2.out _ H6.out.2.2.1).mono ?_
      rintro e W7 ⟨rfl, H7⟩
      have HB : Hid (Below w.heap.size w W7) := H6.out.2.2.2.trans (H7.out.mono H6.out.2.2.2.size)
      clear H7 H6 s0 s1 s2 s3 s4 s5 s6 s7 c0 c1 c2 c3 KZ2
      by_cases hs : 65535 < sz
      · have hs' : (65535 : Int) < (sz : Int) := by omega
        have HE2 : Hid (C = 3) := by have := HE.out; rw [if_pos hs] at this; exact this
        clear HE
        go_wp2_with fail
        go_ret
        exact ⟨by rw [HE2.out]; rfl, HB.out⟩
      · have hs' : ¬ (65535 : Int) < (sz : Int) := by omega
        have HE2 : Hid (C = 0) := by have := HE.out; rw [if_neg hs] at this; exact this
        clear HE
        go_wp2_with fail
        go_ret
        exact ⟨by rw [HE2.out]; rfl, HB.out⟩
end Go.Proofs.YtkjnbgekaifdfaaGreat
namespace Go.Proofs.YtkjnbgekaifdfaaGreat
open Go.ChangeShapes Go.WideShapes Go.ChangeAt Go.RowKit
set_option linter.unusedVariables false
set_option linter.unusedSimpArgs false
theorem four_rd (w : World) (p q r s : Int) (hp : 0 ≤ p ∧ p ≤ 255) (hq : 0 ≤ q ∧ q ≤ 255) (hr : 0 ≤ r ∧ r ≤ 255) (hs : 0 ≤ s ∧ s ≤ 255) : Rd (w.alloc (.cells #[.int .u8 p, .int .u8 q, .int .u8 r, .int .u8 s] 5)) (some ⟨w.heap.size, 0, none⟩) [p, q, r, s] := by
  refine ⟨.inr ⟨w.heap.size, 0, rfl, by simp, fun i hi => ?_⟩, ?_⟩
  · simp only [List.length_cons, List.length_nil] at hi
    unfold World.cell?
    rw [heap_alloc_new]
    rcases (show i = 0 ∨ i = 1 ∨ i = 2 ∨ i = 3 by omega) with rfl | rfl | rfl | rfl <;> rfl
  · intro z hz
    simp only [List.mem_cons, List.not_mem_nil, or_false] at hz
    rcases hz with rfl | rfl | rfl | rfl <;> assumption
theorem rd_drop {w : World} {b o : Nat} {zs : List Int} (h : Rd w (some ⟨b, o, none⟩) zs) (k : Nat) : Rd w (some ⟨b, o + k, none⟩) (zs.drop k) := by
  refine ⟨?_, fun z hz => h.2 z (List.mem_of_mem_drop hz)⟩
  rcases h.1 with h1 | ⟨b', o', e, h2, h3⟩
  · left; rw [h1]; simp
  · cases e
    refine .inr ⟨b, o + k, rfl, h2, fun i hi => ?_⟩
    rw [List.length_drop] at hi
    rw [Nat.add_assoc, h3 (k + i) (by omega)]
    simp [List.getD_eq_getElem?_getD]
end Go.Proofs.YtkjnbgekaifdfaaGreat
namespace Go.Proofs.YtkjnbgekaifdfaaGreat
open Go.ChangeShapes Go.WideShapes Go.ChangeAt Go.RowKit
set_option linter.unusedVariables false
set_option linter.unusedSimpArgs false
theorem own_mono {B B' : Nat} {w : World} {v : Value} {n : Nat} {zs : List Int} (h : Own B w v n zs) (hB : B' ≤ B) : Own B' w v n zs := by
  rcases h with h | ⟨g, h1, h2, h3⟩
  · exact .inl h
  · exact .inr ⟨g, h1, Nat.le_trans hB h2, h3⟩
/-- A list of bytes of one's own that is grown, over the world W3. -/
def Gr (W3 W : World) (v : Value) (m : Nat) (L : List Int) : Prop := ∃ ys, Own W3.heap.size W v m ys ∧ ys.take m = L ∧ L.length = m ∧ Below W3.heap.size W3 W
theorem Gr.go {W3 W W' : World} {v : Value} {m : Nat} {L : List Int} (h : Gr W3 W v m L) (hb : Below W.heap.size W W') : Gr W3 W' v m L := by
  obtain ⟨ys, h1, h2, h3, h4⟩ := h
  exact ⟨ys, h1.below hb, h2, h3, h4.trans (hb.mono h4.size)⟩
theorem Gr.bel {W3 W : World} {v : Value} {m : Nat} {L : List Int} (h : Gr W3 W v m L) : Below W3.heap.size W3 W := by
  obtain ⟨ys, h1, h2, h3, h4⟩ := h
  exact h4
theorem wp_gr (W3 w : World) {ops : Array Oper} {rest : List Oper} {o : Oper} {a : Act} {Q : Exit → Act → World → Prop} (hgd : o.guard = none) (s x : Operand)
    (ho : o.op = .call { callee := .builtin .append, args := #[s, x], argTypes := #[29, 29] }) (v : Value) (m : Nat) (L : List Int) (hs : a.eval s = v) (hg : Gr W3 w v m L)
    (ao : Option Addr) (q c : Nat) (bs : List Int) (hx : a.eval x = .slice ao q c) (hr : Rd w ao bs) (hl : bs.length = q) (hc : ao = none → c = 0) (hb : m + q ≤ 140737488355328)
    (h : ∀ v' w', Hid (Gr W3 w' v' (m + q) (L ++ bs)) → wpList Tryz.prog ops Q rest (a.put o.dst v') w') : wpList Tryz.prog ops Q (o :: rest) a w := by
  obtain ⟨ys, h1, h2, h3, h4⟩ := hg
  refine wpList_append_blk w hgd s x ho W3.heap.size v m ys hs h1 ao q c bs hx hr hl hc hb h4.size ?_
  intro v' w' ys' hO' hT' hG'
  exact h v' w' ⟨ys', hO'.out, by rw [hT'.out, h2], by rw [List.length_append, h3, hl], h4.grown hG' h4.size h1.lt⟩
theorem wp_grs (W3 w : World) {ops : Array Oper} {rest : List Oper} {o : Oper} {a : Act} {Q : Exit → Act → World → Prop} (hgd : o.guard = none) (s x : Operand)
    (ho : o.op = .call { callee := .builtin .append, args := #[s, x], argTypes := #[29, 9] }) (v : Value) (m : Nat) (L : List Int) (hs : a.eval s = v) (hg : Gr W3 w v m L)
    (t : ByteArray) (hx : a.eval x = .string t) (hb : m + t.size ≤ 140737488355328)
    (h : ∀ v' w', Hid (Gr W3 w' v' (m + t.size) (L ++ nums t)) → wpList Tryz.prog ops Q rest (a.put o.dst v') w') : wpList Tryz.prog ops Q (o :: rest) a w := by
  obtain ⟨ys, h1, h2, h3, h4⟩ := hg
  refine wpList_append_str w hgd s x ho W3.heap.size v m ys hs h1 t hx hb h4.size ?_
  intro v' w' ys' hO' hT' hG'
  exact h v' w' ⟨ys', hO'.out, by rw [hT'.out, h2], by rw [List.length_append, h3, nums_len], h4.grown hG' h4.size h1.lt⟩
theorem flat_snoc {α : Type} (f : α → List Int) (l : List α) (k : Nat) (hk : k < l.length) : (l.take (k + 1)).flatMap f = (l.take k).flatMap f ++ f l[k] := by
  rw [List.take_succ_eq_append_getElem hk, List.flatMap_append]; simp
theorem flat_take {α : Type} (f : α → List Int) (l : List α) (k : Nat) : ((l.take k).flatMap f).length ≤ (l.flatMap f).length := by
  conv => rhs; rw [← List.take_append_drop k l, List.flatMap_append, List.length_append]
  omega
theorem tsB_len (t : Nat) (l : List ByteArray) : (tsB t l).length = tsz t l := by
  unfold tsB tsz
  split
  · rfl
  · cases l with
    | nil => rfl
    | cons s r => simp [nums_len]; omega
/-- What data that may be are written of. -/
structure Wrt (t : Nat) (d : Dat) : Prop where
  nu : ∀ u ∈ d.us, u ≤ most (shp t).wd ∧ ((shp t).wd = 1 ∨ (shp t).wd = 2 ∨ (shp t).wd = 4)
  nm : ∀ n ∈ d.ns, nck n = 0
  tx : ∀ k (h : k < d.ts.length), (t = 16 ∨ k = 0) → d.ts[k].size ≤ 255
  sz : (d.us.flatMap (fun n => numB n (shp t).wd)).length + (d.ns.flatMap nmB).length + (tsB t d.ts).length + d.raw.length ≤ 65535
  soa : t = 6 → d.ns.length = 2 ∧ d.ts = [] ∧ d.raw = []
theorem nums_flat (us : List Nat) (wd : Nat) (h : us = [] ∨ wd = 1 ∨ wd = 2 ∨ wd = 4) : (us.flatMap (fun n => numB n wd)).length = us.length * wd := by
  rcases h with rfl | h
  · simp
  · induction us with
    | nil => simp
    | cons u r ih => rw [List.flatMap_cons, List.length_append, ih, numB_len u wd h, List.length_cons, Nat.add_mul]; omega
theorem names_flat (ns : List (List ByteArray)) : (ns.flatMap nmB).length = (ns.map nsz).sum := by
  induction ns with
  | nil => rfl
  | cons n r ih => rw [List.flatMap_cons, List.length_append, ih, nmB_len]; rfl
theorem wrt_of {t : Nat} {d : Dat} (h : checkF t d = 0) : Wrt t d := by
  obtain ⟨h1, h2, h3, h4⟩ := check_parts h
  have hf := (fit_iff t d).1 h2
  obtain ⟨fns, fus, fts, ft1, fraw, fun_, ftx, ftg⟩ := hf
  have hwd : d.us = [] ∨ ((shp t).wd = 1 ∨ (shp t).wd = 2 ∨ (shp t).wd = 4) := by
    rcases shp_cases t with ⟨_, e⟩ | ⟨_, e⟩ | ⟨_, e⟩ | ⟨_, e⟩ | ⟨_, e⟩ | ⟨_, e⟩ | ⟨_, e⟩ | ⟨_, e⟩ | ⟨_, e⟩ <;> rw [e] at fus ⊢ <;> simp only at fus ⊢ <;> first | exact .inl (len0 fus) | (right; decide)
  refine ⟨?_, h3, ?_, ?_, ?_⟩
  · intro u hu
    refine ⟨fun_ u hu, ?_⟩
    rcases hwd with h | h
    · rw [h] at hu; simp at hu
    · exact h
  · intro k hk hor
    by_cases h16 : t = 16
    · exact ftx h16 _ (List.getElem_mem hk)
    · have hk0 : k = 0 := hor.resolve_left h16
      subst hk0
      by_cases h257 : t = 257
      · have htg := ftg h257
        unfold tagB at htg
        simp only [Bool.and_eq_true, decide_eq_true_eq] at htg
        have e : d.ts.getD 0 ⟨#[]⟩ = d.ts[0] := by simp [List.getD_eq_getElem?_getD, hk]
        rw [e] at htg
        omega
      · have h0 : (shp t).nt = 0 := by
          rcases shp_cases t with ⟨_, e⟩ | ⟨_, e⟩ | ⟨_, e⟩ | ⟨_, e⟩ | ⟨_, e⟩ | ⟨_, e⟩ | ⟨h', e⟩ | ⟨h', e⟩ | ⟨_, e⟩ <;> first | exact absurd h' h16 | exact absurd h' h257 | rw [e]
        rw [h0] at fts
        omega
  · rw [nums_flat d.us _ hwd, names_flat, tsB_len]
    unfold sizesF at h4
    omega
  · intro h6
    subst h6
    refine ⟨fns, len0 ?_, len0 ?_⟩
    · rcases fts with h | h
      · exact absurd h (by decide)
      · have e : (shp 6).nt = 0 := rfl
        rw [e] at h; omega
    · rcases fraw with h | h
      · exact absurd h (by decide)
      · have e : (shp 6).nr = 0 := rfl
        rw [e] at h; omega
theorem rd_none {w : World} {zs : List Int} (h : Rd w none zs) : zs = [] := by
  rcases h.1 with h1 | ⟨b, o, e, _⟩
  · exact h1
  · cases e
end Go.Proofs.YtkjnbgekaifdfaaGreat
namespace Go.Proofs.YtkjnbgekaifdfaaGreat
open Go.ChangeShapes Go.WideShapes Go.ChangeAt Go.RowKit
set_option linter.unusedVariables false
set_option linter.unusedSimpArgs false
theorem src_bytes {w : World} {ao : Option Addr} {m c : Nat} {news : List Int} (hr : Rd w ao news) (hl : news.length = m) : Src Tryz.prog 1 29 (.slice ao m c) m (news.map (Value.int .u8)) w := by
  cases ao with
  | some x => exact Src.ofSlice w Tryz.underlying29 x m c _ (by simp [hl]) (rd_cells hr) (by intro u hu; simp at hu; obtain ⟨z, _, rfl⟩ := hu; rfl)
  | none =>
    have hn : news = [] := by
      rcases hr with ⟨rfl, _⟩ | ⟨b, o, h, _⟩
      · rfl
      · cases h
    subst hn
    subst hl
    exact Src.ofNil w Tryz.underlying29 c
theorem rd_all {w : World} {ao : Option Addr} {news : List Int} (hr : Rd w ao news) : ∀ z ∈ news, 0 ≤ z ∧ z ≤ 255 := by
  intro z hz
  obtain ⟨i, hi, rfl⟩ := List.getElem_of_mem hz
  have := hr.bd i
  rw [List.getD_eq_getElem?_getD, List.getElem?_eq_getElem hi] at this
  exact this
theorem wpList_append_fitB (w : World) {ops : Array Oper} {rest : List Oper} {o : Oper} {a : Act} {Q : Exit → Act → World → Prop} (hgd : o.guard = none) (s x : Operand)
    (ho : o.op = .call { callee := .builtin .append, args := #[s, x], argTypes := #[29, 29] }) (B : Nat) (v : Value) (n : Nat) (zs : List Int) (hs : a.eval s = v) (hown : Own B w v n zs)
    (ao : Option Addr) (m c : Nat) (news : List Int) (hx : a.eval x = .slice ao m c) (hr : Rd w ao news) (hl : news.length = m) (hb : n + m ≤ 140737488355328) (hB : B ≤ w.heap.size)
    (h : ∀ v' w' zs', Hid (Own B w' v' (n + m) zs') → Hid (zs'.take (n + m) = zs.take n ++ news) → w.grownBy w' v.ownBlock → Hid (n + m ≤ zs.length → zs'.length = zs.length) → wpList Tryz.prog ops Q rest (a.put o.dst v') w') : wpList Tryz.prog ops Q (o :: rest) a w := by
  refine wpList_append_row tyB w hgd s x 29 ho B v n (zs.map (Value.int .u8)) hs hown.toV (.slice ao m c) m (news.map (Value.int .u8)) hx (src_bytes hr hl) (by omega) (by simp only [maxLen]; omega) hB ?_
  intro v' w' xs' h1 h2 h3 h4
  obtain ⟨ys, rfl, hys⟩ := bytes_of xs' (h4.out.1 QB ⟨0, rfl, by omega, by omega⟩ (qb_map hown.all) (qb_map (rd_all hr)))
  refine h v' w' ys (h1.out.toOwn hys) ?_ h3 ?_
  · have h2' := h2.out
    rw [← List.map_take, ← List.map_take, ← List.map_append] at h2'
    exact int_inj h2'
  · have := h4.out.2
    rw [List.length_map, List.length_map] at this
    exact this
theorem wpList_append_fitS (w : World) {ops : Array Oper} {rest : List Oper} {o : Oper} {a : Act} {Q : Exit → Act → World → Prop} (hgd : o.guard = none) (s x : Operand)
    (ho : o.op = .call { callee := .builtin .append, args := #[s, x], argTypes := #[29, 9] }) (B : Nat) (v : Value) (n : Nat) (zs : List Int) (hs : a.eval s = v) (hown : Own B w v n zs)
    (t : ByteArray) (hx : a.eval x = .string t) (hb : n + t.size ≤ 140737488355328) (hB : B ≤ w.heap.size)
    (h : ∀ v' w' zs', Hid (Own B w' v' (n + t.size) zs') → Hid (zs'.take (n + t.size) = zs.take n ++ nums t) → w.grownBy w' v.ownBlock → Hid (n + t.size ≤ zs.length → zs'.length = zs.length) → wpList Tryz.prog ops Q rest (a.put o.dst v') w') : wpList Tryz.prog ops Q (o :: rest) a w := by
  refine wpList_append_row tyB w hgd s x 9 ho B v n (zs.map (Value.int .u8)) hs hown.toV (.string t) t.size (byteCells t) hx (Src.ofString w Tryz.underlying9 t) (by omega) (by simp only [maxLen]; omega) hB ?_
  intro v' w' xs' h1 h2 h3 h4
  obtain ⟨ys, rfl, hys⟩ := bytes_of xs' (h4.out.1 QB ⟨0, rfl, by omega, by omega⟩ (qb_map hown.all) (by rw [cells_nums]; exact qb_map (nums_all t)))
  refine h v' w' ys (h1.out.toOwn hys) ?_ h3 ?_
  · have h2' := h2.out
    rw [cells_nums, ← List.map_take, ← List.map_take, ← List.map_append] at h2'
    exact int_inj h2'
  · have := h4.out.2
    rw [List.length_map, List.length_map] at this
    exact this
set_option maxRecDepth 100000 in
set_option maxHeartbeats 2000000 in
theorem pbytes_room (a : Option Addr) (n c : Nat) (ss : List ByteArray) (w : World) (h : Nm w a n ss) :
    Calls Tryz.prog 122 #[.slice a n c] w fun e w' => ∃ v ys, e = .returned (.tuple #[v, .int .i64 (nbytes ss).2]) ∧ Hid (Own w.heap.size w' v (nbytes ss).1.length ys ∧ ys.take (nbytes ss).1.length = (nbytes ss).1 ∧ Below w.heap.size w w' ∧ ys.length ≤ 140737488355328) := by
  have KC : Hid (Calls Tryz.prog 42 #[.slice a n c] w fun e w' => e = .returned (.int .i64 (nck ss)) ∧ w' = w) := pm_check c h
  have HN : Hid (Nm w a n ss) := h
  have hn := h.n63
  have HL : Hid (ss.length = n) := h.len
  by_cases hk : nck ss = 0
  · rw [hk] at KC
    have hsm := nck_small hk
    have hp : nbytes ss = (nby ss ++ [0], 0) := by unfold nbytes; rw [if_pos hk]
    rw [hp]
    obtain ⟨T, hT0⟩ : ∃ T, nsz ss = T := ⟨_, rfl⟩
    have hT255 : T ≤ 255 := by rw [← hT0]; exact hsm.1
    have HSZ : Hid (∀ k, (nby (ss.take k)).length + 1 ≤ T) := fun k => by have := nby_len (ss.take k); have := nsz_le ss k; omega
    have HWZ : Hid ((nby ss).length + 1 = T) := by show _ = _; rw [nby_len, hT0]
    have KS : Hid (Calls Tryz.prog 49 #[.slice a n c] w fun e w' => e = .returned (.int .i64 T) ∧ w' = w) := by rw [← hT0]; exact psize_eq a n c ss w h.rd h.len (by have := h.sz; omega)
    have HLB : Hid (∀ s ∈ ss, s.size ≤ 63) := fun s hs => by
      have := hsm.2 s hs
      unfold chk at this
      split at this
      · omega
      · cases this
    clear h hk hp hsm hT0
    go_enter Tryz.func122, Tryz.ntmps122
    go_wp2_with fail
    refine KC.out.mono ?_
    rintro e w1 ⟨rfl, rfl⟩
    go_wp2_with fail
    refine KS.out.mono ?_
    rintro e w1 ⟨rfl, rfl⟩
    go_wp2_with (at_make; refine wpList_make_blk _ rfl _ _ rfl 0 T _ _ rfl rfl rfl rfl (by omega) (by omega) ?_)
    have HW0 : Hid (∃ ys, Own w1.heap.size (w1.alloc (.cells (Array.replicate T (Value.int .u8 0)) 5)) (.slice (some ⟨w1.heap.size, 0, none⟩) 0 T) 0 ys ∧ ys.take 0 = nby (ss.take 0) ∧ ys.length = T) := by
      refine ⟨List.replicate T 0, .inr ⟨w1.heap.size, by simp, Nat.le_refl _, ⟨(heap_alloc_new _ _).trans (by simp), ?_⟩, by simp, by unfold maxLen; simp; omega⟩, by simp [nby], by simp⟩
      intro z hz
      rw [List.eq_of_mem_replicate hz]
      omega
    have HB0 : Hid (Below w1.heap.size w1 (w1.alloc (.cells (Array.replicate T (Value.int .u8 0)) 5))) := (Below.refl _ _).alloc (Nat.le_refl _) _
    generalize w1.alloc (.cells (Array.replicate T (Value.int .u8 0)) 5) = wa at *
    go_loopw [5, 18] (fun v x wr => ∃ (k m : Nat), k ≤ n ∧ m + 1 ≤ T ∧ x = .int .i64 k ∧ Hid ((nby (ss.take k)).length = m) ∧ Hid (∃ ys, Own w1.heap.size wr v m ys ∧ ys.take m = nby (ss.take k) ∧ ys.length = T) ∧ Hid (Below w1.heap.size w1 wr)) (fun _ x _ => n - (intOf x).toNat)
    case atStart => exact ⟨0, 0, Nat.zero_le _, by have := HWZ.out; omega, rfl, rfl, HW0.out, HB0⟩
    case round =>
      obtain ⟨k, m, hkn, hm, rfl, HM, HW, HB⟩ := hrel
      clear HW0 HB0
      by_cases hlt : k < n
      · have hlt' : (k : Int) < (n : Int) := by omega
        have hks : k < ss.length := by rw [HL.out]; exact hlt
        obtain ⟨b, o, rfl, hb, hc⟩ := (HN.out.below HB.out).rd.at k hks
        have HCE : Hid (∀ W, Below w1.heap.size w1 W → W.cell? ⟨b, o + k, none⟩ = some (.string ss[k])) := by
          intro W hW
          obtain ⟨b', o', e, _, h2⟩ := (HN.out.below hW).rd.at k hks
          cases e
          exact h2
        have hsz := HLB.out _ (List.getElem_mem hks)
        have HT : Hid (nby (ss.take (k + 1)) = nby (ss.take k) ++ [(ss[k].size : Int)] ++ nums ss[k] ∧ (nby (ss.take (k + 1))).length = m + 1 + ss[k].size) := by
          have e : nby (ss.take (k + 1)) = nby (ss.take k) ++ [(ss[k].size : Int)] ++ nums ss[k] := by rw [take_snocT ss k hks, nby_snoc]
          exact ⟨e, by rw [e, List.length_append, List.length_append, HM.out, nums_len]; rfl⟩
        have hz2 := HSZ.out (k + 1)
        rw [HT.out.2] at hz2
        generalize ss[k] = s at *
        obtain ⟨ys, hO, hTk, hyl⟩ := HW.out
        have hnb : Below wr.heap.size wr (wr.alloc (.cells #[.int .u8 (s.size : Int)] 5)) := (Below.refl _ _).alloc (Nat.le_refl _) _
        have HO2 : Hid (Own w1.heap.size (wr.alloc (.cells #[.int .u8 (s.size : Int)] 5)) u5 m ys ∧ ys.take m = nby (ss.take k) ∧ ys.length = T) := ⟨hO.below hnb, hTk, hyl⟩
        have HR2 : Hid (Rd (wr.alloc (.cells #[.int .u8 (s.size : Int)] 5)) (some ⟨wr.heap.size, 0, none⟩) [(s.size : Int)]) := new_rd wr _ (by omega)
        have HNB : Hid (Below wr.heap.size wr (wr.alloc (.cells #[.int .u8 (s.size : Int)] 5))) := hnb
        clear hO hTk hnb hyl
        have hmod : (s.size : Int) % 256 = (s.size : Int) := by omega
        go_wp2_with (at_builtin; first
          | (refine wpList_append_fitB _ rfl _ _ rfl w1.heap.size _ m ys rfl HO2.out.1 (some ⟨wr.heap.size, 0, none⟩) 1 1 [(s.size : Int)] rfl HR2.out rfl (by omega) (Nat.le_trans HB.out.size HNB.out.size) ?_; intro v' w' ys' hO' hT' hG' hF'; have HB2 : Hid (Below w1.heap.size w1 w') := ((HB.out.trans (HNB.out.mono HB.out.size)).grown hG' (Nat.le_trans HB.out.size HNB.out.size) HO2.out.1.lt); have hc2 : w'.cell? ⟨b, o + k, none⟩ = some (.string s) := HCE.out _ HB2.out; clear HR2 hG')
          | (refine wpList_append_fitS _ rfl _ _ rfl w1.heap.size _ (m + 1) ys' rfl hO'.out s rfl (by omega) HB2.out.size ?_; intro v2 w2 ys2 hO2 hT2 hG2 hF2))
        refine ⟨⟨k + 1, m + 1 + s.size, by omega, hz2, by go_num, HT.out.2, ⟨ys2, hO2.out, ?_, ?_⟩, ?_⟩, by simp [intOf]; omega⟩
        · rw [hT2.out, hT'.out, HO2.out.2.1, HT.out.1]
        · rw [hF2.out (by rw [hF'.out (by rw [HO2.out.2.2]; omega), HO2.out.2.2]; omega), hF'.out (by rw [HO2.out.2.2]; omega), HO2.out.2.2]
        · exact HB2.out.grown hG2 HB2.out.size hO'.out.lt
      · have hge : (n : Int) ≤ (k : Int) := by omega
        have ek : ss.take k = ss := List.take_of_length_le (by rw [HL.out]; omega)
        obtain ⟨ys, hO, hTk, hyl⟩ := HW.out
        rw [ek] at hTk
        have HM2 : Hid ((nby ss).length = m) := by have := HM.out; rw [ek] at this; exact this
        have hnb : Below wr.heap.size wr (wr.alloc (.cells #[.int .u8 0] 5)) := (Below.refl _ _).alloc (Nat.le_refl _) _
        have HO2 : Hid (Own w1.heap.size (wr.alloc (.cells #[.int .u8 0] 5)) u5 m ys ∧ ys.take m = nby ss ∧ ys.length = T) := ⟨hO.below hnb, hTk, hyl⟩
        have HR2 : Hid (Rd (wr.alloc (.cells #[.int .u8 0] 5)) (some ⟨wr.heap.size, 0, none⟩) [0]) := new_rd wr _ (by omega)
        have HNB : Hid (Below wr.heap.size wr (wr.alloc (.cells #[.int .u8 0] 5))) := hnb
        clear hO hTk hnb ek hyl
        go_wp2_with (at_builtin; refine wpList_append_fitB _ rfl _ _ rfl w1.heap.size _ m ys rfl HO2.out.1 (some ⟨wr.heap.size, 0, none⟩) 1 1 [0] rfl HR2.out rfl (by omega) (Nat.le_trans HB.out.size HNB.out.size) ?_; intro v' w' ys' hO' hT' hG' hF'; have HB2 : Hid (Below w1.heap.size w1 w') := ((HB.out.trans (HNB.out.mono HB.out.size)).grown hG' (Nat.le_trans HB.out.size HNB.out.size) HO2.out.1.lt); clear hG')
        go_ret2
        refine ⟨v', ys', rfl, ?_, ?_, HB2.out, ?_⟩
        · rw [List.length_append, HM2.out]; exact hO'.out
        · rw [List.length_append, HM2.out]; exact hT'.out.trans (by rw [HO2.out.2.1])
        · rw [hF'.out (by rw [HO2.out.2.2]; omega), HO2.out.2.2]; omega
  · have hp : nbytes ss = ([], nck ss) := by unfold nbytes; rw [if_neg hk]
    rw [hp]
    generalize nck ss = q at *
    have hq : (q != 0) = true := bne_iff_ne.2 hk
    clear h hk hp
    go_enter Tryz.func122, Tryz.ntmps122
    go_wp2_with fail
    refine KC.out.mono ?_
    rintro e w1 ⟨rfl, rfl⟩
    go_wp2
    go_ret2
    exact ⟨.slice none 0 0, [], rfl, .inl ⟨rfl, rfl, rfl⟩, rfl, Below.refl _ _, Nat.zero_le _⟩
theorem pbytes_any (a : Option Addr) (n c : Nat) (ss : List ByteArray) (w : World) (h : Nm w a n ss) : Calls Tryz.prog 122 #[.slice a n c] w (fun e w' => ∃ v ys, e = .returned (.tuple #[v, .int .i64 (nbytes ss).2]) ∧ Hid (Own w.heap.size w' v (nbytes ss).1.length ys ∧ ys.take (nbytes ss).1.length = (nbytes ss).1 ∧ Below w.heap.size w w')) :=
  (pbytes_room a n c ss w h).mono fun e w' ⟨v, ys, h1, h2⟩ => ⟨v, ys, h1, h2.out.1, h2.out.2.1, h2.out.2.2.1⟩
end Go.Proofs.YtkjnbgekaifdfaaGreat
namespace Go.Proofs.YtkjnbgekaifdfaaGreat
open Go.ChangeShapes Go.WideShapes Go.ChangeAt Go.RowKit
set_option linter.unusedVariables false
set_option linter.unusedSimpArgs false
theorem view0 (a b c d : Value) (w : World) : (Instr.field 208 (.agg #[a, b, c, d]) 0).run Tryz.prog w = .ok a w := by kernel_rfl
theorem view1 (a b c d : Value) (w : World) : (Instr.field 208 (.agg #[a, b, c, d]) 1).run Tryz.prog w = .ok b w := by kernel_rfl
theorem view2 (a b c d : Value) (w : World) : (Instr.field 208 (.agg #[a, b, c, d]) 2).run Tryz.prog w = .ok c w := by kernel_rfl
theorem view3 (a b c d : Value) (w : World) : (Instr.field 208 (.agg #[a, b, c, d]) 3).run Tryz.prog w = .ok d w := by kernel_rfl
theorem slice_is_nil (a : Option Addr) (n c : Nat) (w : World) : (binOp .eql 29 (.slice a n c) (.slice none 0 0)).run Tryz.prog w = .ok (.bool a.isNone) w := Lib.run_eql_slice_nil w _ _ _ _ _ _ _ Tryz.underlying29
attribute [local go_sem] view0 view1 view2 view3 slice_is_nil
end Go.Proofs.YtkjnbgekaifdfaaGreat
namespace Go.Proofs.YtkjnbgekaifdfaaGreat
open Go.ChangeShapes Go.WideShapes Go.ChangeAt Go.RowKit
set_option linter.unusedVariables false
set_option linter.unusedSimpArgs false
attribute [local go_sem] view0 view1 view2 view3 slice_is_nil
/-- A reader's block: itself, its bytes, its place, whether it is bad. -/
def RBlk (w : World) (g : Nat) (t : Value) (k : Int) (bad : Bool) : Prop :=
  w.heap[g]? = some (.cells #[.pointer (some ⟨g, 0, none⟩), t, .int .i64 k, .bool bad] 204 (0, 0))
end Go.Proofs.YtkjnbgekaifdfaaGreat
namespace Go.Proofs.YtkjnbgekaifdfaaGreat
open Go.ChangeShapes Go.WideShapes Go.ChangeAt Go.RowKit
set_option linter.unusedVariables false
set_option linter.unusedSimpArgs false
attribute [local go_sem] view0 view1 view2 view3 slice_is_nil
theorem new_below (w : World) (o : Obj) : Below w.heap.size w (w.alloc o) := (Below.refl _ _).alloc (Nat.le_refl _) _
attribute [local go_sem] view0 view1 view2 view3
/-- A reader's state: its place, or none where it is bad. -/
def RSt (w : World) (g : Nat) (a : Option Addr) (len cap : Nat) : Option Nat → Prop
  | some k => RBlk w g (.slice a len cap) k false ∧ k ≤ len
  | none => RBlk w g (.slice none 0 0) 0 true
/-- What becomes of the state by going on over n bytes, by going toq a place; the bytes that are gone over. -/
def mv (len : Nat) (st : Option Nat) (n : Int) : Option Nat := match st with
  | some k => if 0 ≤ n ∧ k + n ≤ len then some (k + n.toNat) else none
  | none => none
def tk (zs : List Int) (st : Option Nat) (n : Int) : List Int := match st with
  | some k => if 0 ≤ n ∧ k + n ≤ zs.length then (zs.drop k).take n.toNat else []
  | none => []
def pos : Option Nat → Int
  | some k => k
  | none => 0
def lft (len : Nat) : Option Nat → Int
  | some k => (len : Int) - (k : Int)
  | none => 0
end Go.Proofs.YtkjnbgekaifdfaaGreat
namespace Go.Proofs.YtkjnbgekaifdfaaGreat
open Go.ChangeShapes Go.WideShapes Go.ChangeAt Go.RowKit
set_option linter.unusedVariables false
set_option linter.unusedSimpArgs false
attribute [local go_sem] view0 view1 view2 view3
def jm (len : Nat) (st : Option Nat) (n : Int) : Option Nat := match st with
  | some _ => if 0 ≤ n ∧ n ≤ len then some n.toNat else none
  | none => none
end Go.Proofs.YtkjnbgekaifdfaaGreat
namespace Go.Proofs.YtkjnbgekaifdfaaGreat
open Go.ChangeShapes Go.WideShapes Go.ChangeAt Go.RowKit
set_option linter.unusedVariables false
set_option linter.unusedSimpArgs false
theorem pnbytes_rd (a : Option Addr) (n c : Nat) (ss : List ByteArray) (w : World) (h : Nm w a n ss) (hk : nck ss = 0) :
    Calls Tryz.prog 122 #[.slice a n c] w fun e w' => ∃ ao cc, e = .returned (.tuple #[.slice ao (nmB ss).length cc, .int .i64 0]) ∧ Hid (Rd w' ao (nmB ss) ∧ (ao = none → cc = 0) ∧ Below w.heap.size w w') := by
  have hp : nbytes ss = (nmB ss, 0) := by unfold nbytes; rw [if_pos hk]; rfl
  have := pbytes_any a n c ss w h
  rw [hp] at this
  refine this.mono ?_
  rintro e w' ⟨v, ys, rfl, H⟩
  obtain ⟨h1, h2, h3⟩ := H.out
  simp only at h1 h2
  obtain ⟨ao, rfl, hoa⟩ := h1.addr
  have hrd := hoa.rdTake (nmB ss).length
  rw [h2] at hrd
  refine ⟨ao, ys.length, rfl, hrd, ?_, h3⟩
  rintro rfl
  have := rd_none hrd
  simp [nmB] at this
set_option maxRecDepth 100000 in
set_option maxHeartbeats 2000000 in
theorem putnames_any (W3 w : World) (v : Value) (m : Nat) (L : List Int) (s : Sl) (nss : List (List ByteArray)) (hg : Gr W3 w v m L) (hn : NRd W3 s nss) (hk : ∀ n ∈ nss, nck n = 0) (T : Nat) (R : List Int) (hT : m + (nss.flatMap nmB).length = T) (hR : L ++ nss.flatMap nmB = R) (hm : T ≤ 65535) :
    Calls Tryz.prog 135 #[v, .slice s.a s.n s.c] w fun e w' => ∃ v', e = .returned v' ∧ Hid (Gr W3 w' v' T R) := by
  obtain ⟨a1, n1, k1⟩ := s
  have HN : Hid (NRd W3 ⟨a1, n1, k1⟩ nss ∧ ∀ n ∈ nss, nck n = 0) := ⟨hn, hk⟩
  have HL : Hid (nss.length = n1) := hn.len
  have hc1 : n1 ≤ 9223372036854775807 := Nat.le_trans hn.cap.1 hn.cap.2
  have HM : Hid (m + (nss.flatMap nmB).length ≤ 65535) := by show _ ≤ _; omega
  have HTR : Hid (m + (nss.flatMap nmB).length = T ∧ L ++ nss.flatMap nmB = R) := ⟨hT, hR⟩
  have HG0 : Hid (Gr W3 w v m (L ++ (nss.take 0).flatMap nmB)) := by show Gr _ _ _ _ _; simpa using hg
  have hm0 : m ≤ 65535 := by omega
  clear hg hn hk hm hT hR
  simp only
  go_enter Tryz.func135, Tryz.ntmps135
  go_wp2_with fail
  go_loopw [0, 11] (fun v i wr => ∃ k q : Nat, k ≤ n1 ∧ q ≤ 65535 ∧ i = .int .i64 (k : Int) ∧ Hid (Gr W3 wr v q (L ++ (nss.take k).flatMap nmB)) ∧ Hid (q = m + ((nss.take k).flatMap nmB).length)) (fun _ i _ => n1 - (intOf i).toNat)
  case atStart => exact ⟨0, m, Nat.zero_le _, hm0, rfl, HG0, by show _ = _; simp⟩
  case round =>
    obtain ⟨k, q, hkn, hq, rfl, HG, HQ⟩ := hrel
    clear HG0
    by_cases hlt : k < n1
    · have hlt' : (k : Int) < (n1 : Int) := by omega
      have hki : k < nss.length := by rw [HL.out]; exact hlt
      obtain ⟨B1, o1, ha1, hl1, z1, hz1, hr1⟩ := (HN.out.1.below HG.out.bel).at k hki
      simp only at ha1
      subst ha1
      have hk0 := HN.out.2 _ (List.getElem_mem hki)
      have KB : Hid (∀ W, W = wr → Calls Tryz.prog 122 #[.slice z1.a z1.n z1.c] W fun e w' => ∃ ao cc, e = .returned (.tuple #[.slice ao (nmB nss[k]).length cc, .int .i64 0]) ∧ Hid (Rd w' ao (nmB nss[k]) ∧ (ao = none → cc = 0) ∧ Below W.heap.size W w')) := by
        intro W e
        subst e
        exact pnbytes_rd z1.a z1.n z1.c nss[k] W ⟨hr1.rd, hr1.len, by have := (nck_small hk0).1; omega⟩ hk0
      have HE0 : (nss.take (k + 1)).flatMap nmB = (nss.take k).flatMap nmB ++ nmB nss[k] := flat_snoc nmB nss k hki
      have HE : Hid (L ++ (nss.take (k + 1)).flatMap nmB = L ++ (nss.take k).flatMap nmB ++ nmB nss[k]) := by
        show _ = _
        rw [HE0, List.append_assoc]
      have HQ2 : Hid (q + (nmB nss[k]).length = m + ((nss.take (k + 1)).flatMap nmB).length) := by
        show _ = _
        rw [HE0, List.length_append, HQ.out]
        omega
      have hq2 : q + (nmB nss[k]).length ≤ 65535 := by
        have h1 := HQ2.out
        have h2 := flat_take nmB nss (k + 1)
        have h3 := HM.out
        omega
      clear hr1 hk0 HE0 HQ
      generalize nmB nss[k] = nb at *
      generalize hql : nb.length = ql at *
      have HQl : Hid (nb.length = ql) := hql
      clear hql
      generalize z1.a = za at *
      generalize z1.n = zn at *
      generalize z1.c = zc at *
      go_wp2_with fail
      refine (KB.out _ rfl).mono ?_
      rintro e W5 ⟨ao, cc, rfl, H5⟩
      have HG5 : Hid (Gr W3 W5 u0 q (L ++ (nss.take k).flatMap nmB)) := HG.out.go H5.out.2.2
      go_wp2_with (at_builtin; refine wp_gr W3 _ rfl _ _ rfl u0 q (L ++ (nss.take k).flatMap nmB) rfl HG5.out ao ql cc nb rfl H5.out.1 HQl.out H5.out.2.1 (by omega) ?_; intro v6 W6 HG6)
      refine ⟨⟨k + 1, q + ql, by omega, hq2, by go_num, ?_, HQ2⟩, by simp [intOf]; omega⟩
      have := HG6.out
      rw [← HE.out] at this
      exact this
    · have hge : ¬ (k : Int) < (n1 : Int) := by omega
      have HG2 : Hid (Gr W3 wr u0 T R) := by
        have h1 := HG.out
        have h2 := HQ.out
        rw [List.take_of_length_le (by rw [HL.out]; omega)] at h1 h2
        rw [h2, HTR.out.1, HTR.out.2] at h1
        exact h1
      clear HG HQ
      go_wp2_with fail
      go_ret
      exact ⟨_, rfl, HG2⟩
set_option maxRecDepth 100000 in
set_option maxHeartbeats 2000000 in
theorem putnums_any (W3 w : World) (v : Value) (m : Nat) (L : List Int) (s : Sl) (us : List Nat) (wd : Nat) (hg : Gr W3 w v m L) (hn : URd W3 s us) (hk : ∀ n ∈ us, n ≤ most wd ∧ (wd = 1 ∨ wd = 2 ∨ wd = 4)) (T : Nat) (R : List Int) (hT : m + (us.flatMap (fun n => numB n wd)).length = T) (hR : L ++ us.flatMap (fun n => numB n wd) = R) (hm : T ≤ 65535) :
    Calls Tryz.prog 136 #[v, .slice s.a s.n s.c, .int .i64 wd] w fun e w' => ∃ v', e = .returned v' ∧ Hid (Gr W3 w' v' T R) := by
  obtain ⟨a1, n1, k1⟩ := s
  have HN : Hid (URd W3 ⟨a1, n1, k1⟩ us ∧ ∀ n ∈ us, n ≤ most wd ∧ (wd = 1 ∨ wd = 2 ∨ wd = 4)) := ⟨hn, hk⟩
  have HL : Hid (us.length = n1) := hn.len
  have hc1 : n1 ≤ 9223372036854775807 := Nat.le_trans hn.cap.1 hn.cap.2
  have HM : Hid (m + (us.flatMap (fun n => numB n wd)).length ≤ 65535) := by show _ ≤ _; omega
  have HTR : Hid (m + (us.flatMap (fun n => numB n wd)).length = T ∧ L ++ us.flatMap (fun n => numB n wd) = R) := ⟨hT, hR⟩
  have HG0 : Hid (Gr W3 w v m (L ++ (us.take 0).flatMap (fun n => numB n wd))) := by show Gr _ _ _ _ _; simpa using hg
  have hm0 : m ≤ 65535 := by omega
  clear hg hn hk hm hT hR
  simp only
  go_enter Tryz.func136, Tryz.ntmps136
  go_wp2_with fail
  go_loopw [0, 12] (fun v i wr => ∃ k q : Nat, k ≤ n1 ∧ q ≤ 65535 ∧ i = .int .i64 (k : Int) ∧ Hid (Gr W3 wr v q (L ++ (us.take k).flatMap (fun n => numB n wd))) ∧ Hid (q = m + ((us.take k).flatMap (fun n => numB n wd)).length)) (fun _ i _ => n1 - (intOf i).toNat)
  case atStart => exact ⟨0, m, Nat.zero_le _, hm0, rfl, HG0, by show _ = _; simp⟩
  case round =>
    obtain ⟨k, q, hkn, hq, rfl, HG, HQ⟩ := hrel
    clear HG0
    by_cases hlt : k < n1
    · have hlt' : (k : Int) < (n1 : Int) := by omega
      have hki : k < us.length := by rw [HL.out]; exact hlt
      obtain ⟨B1, o1, ha1, hl1, hz1⟩ := (HN.out.1.below HG.out.bel).at k hki
      simp only at ha1
      subst ha1
      obtain ⟨hu1, hu2⟩ := HN.out.2 _ (List.getElem_mem hki)
      have hub := HN.out.1.bd _ (List.getElem_mem hki)
      have HE0 : (us.take (k + 1)).flatMap (fun n => numB n wd) = (us.take k).flatMap (fun n => numB n wd) ++ numB us[k] wd := flat_snoc (fun n => numB n wd) us k hki
      have HE : Hid (L ++ (us.take (k + 1)).flatMap (fun n => numB n wd) = L ++ (us.take k).flatMap (fun n => numB n wd) ++ numB us[k] wd) := by
        show _ = _
        rw [HE0, List.append_assoc]
      have HNL : Hid ((numB us[k] wd).length = wd) := numB_len _ _ hu2
      have HQ2 : Hid (q + wd = m + ((us.take (k + 1)).flatMap (fun n => numB n wd)).length) := by
        show _ = _
        rw [HE0, List.length_append, HQ.out, HNL.out]
        omega
      have hq2 : q + wd ≤ 65535 := by
        have h1 := HQ2.out
        have h2 := flat_take (fun n => numB n wd) us (k + 1)
        have h3 := HM.out
        omega
      have HNB : Hid ([(us[k] : Int) / 16777216, (us[k] : Int) / 65536 % 256, (us[k] : Int) / 256 % 256, (us[k] : Int) % 256].drop (4 - wd) = numB us[k] wd) := by
        show _ = _
        rcases hu2 with rfl | rfl | rfl
        · simp [most] at hu1; simp [numB]; omega
        · simp [most] at hu1; simp [numB]; omega
        · simp [most] at hu1; simp [numB]
      clear HE0 HQ hu1
      generalize us[k] = u at *
      have hu0 : (0 : Int) ≤ (u : Int) := by omega
      have hu4 : (u : Int) < 4294967296 := by omega
      have hw4 : (4 : Int) - (wd : Int) = ((4 - wd : Nat) : Int) := by omega
      go_wp2_with fail
      refine (put32_yes (u : Int) _ hu0 hu4).mono ?_
      rintro e W5 ⟨rfl, rfl⟩
      have hr := four_rd wr ((u : Int) / 16777216) ((u : Int) / 65536 % 256) ((u : Int) / 256 % 256) ((u : Int) % 256) (by omega) (by omega) (by omega) (by omega)
      have HR5 : Hid (Rd (wr.alloc (.cells #[.int .u8 ((u : Int) / 16777216), .int .u8 ((u : Int) / 65536 % 256), .int .u8 ((u : Int) / 256 % 256), .int .u8 ((u : Int) % 256)] 5)) (some ⟨wr.heap.size, 4 - wd, none⟩) (numB u wd)) := by
        have hc := rd_drop hr (4 - wd)
        rw [Nat.zero_add, HNB.out] at hc
        exact hc
      have HG5 : Hid (Gr W3 (wr.alloc (.cells #[.int .u8 ((u : Int) / 16777216), .int .u8 ((u : Int) / 65536 % 256), .int .u8 ((u : Int) / 256 % 256), .int .u8 ((u : Int) % 256)] 5)) u0 q (L ++ (us.take k).flatMap (fun n => numB n wd))) := HG.out.go ((Below.refl _ _).alloc (Nat.le_refl _) _)
      clear hr HNB
      generalize hWW : wr.alloc (.cells #[.int .u8 ((u : Int) / 16777216), .int .u8 ((u : Int) / 65536 % 256), .int .u8 ((u : Int) / 256 % 256), .int .u8 ((u : Int) % 256)] 5) = W5 at *
      clear hWW
      generalize numB u wd = nb at *
      have HNL2 : Hid (nb.length = 4 - (4 - wd)) := by show _ = _; have := HNL.out; omega
      have e44 : 4 - (4 - wd) = wd := by omega
      have HQ3 : Hid (q + (4 - (4 - wd)) = m + ((us.take (k + 1)).flatMap (fun n => numB n wd)).length) := by rw [e44]; exact HQ2
      have hq3 : q + (4 - (4 - wd)) ≤ 65535 := by omega
      have hwd : 1 ≤ wd ∧ wd ≤ 4 := by omega
      clear hu2 HQ2 HNL e44
      go_wp2_with (at_builtin; refine wp_gr W3 _ rfl _ _ rfl u0 q (L ++ (us.take k).flatMap (fun n => numB n wd)) rfl HG5.out _ _ _ nb rfl HR5.out HNL2.out (fun e => by cases e) (by omega) ?_; intro v6 W6 HG6)
      refine ⟨⟨k + 1, q + (4 - (4 - wd)), by omega, hq3, by go_num, ?_, HQ3⟩, by simp [intOf]; omega⟩
      have := HG6.out
      rw [← HE.out] at this
      exact this
    · have hge : ¬ (k : Int) < (n1 : Int) := by omega
      have HG2 : Hid (Gr W3 wr u0 T R) := by
        have h1 := HG.out
        have h2 := HQ.out
        rw [List.take_of_length_le (by rw [HL.out]; omega)] at h1 h2
        rw [h2, HTR.out.1, HTR.out.2] at h1
        exact h1
      clear HG HQ
      go_wp2_with fail
      go_ret
      exact ⟨_, rfl, HG2⟩
end Go.Proofs.YtkjnbgekaifdfaaGreat
namespace Go.Proofs.YtkjnbgekaifdfaaGreat
open Go.ChangeShapes Go.WideShapes Go.ChangeAt Go.RowKit
set_option linter.unusedVariables false
set_option linter.unusedSimpArgs false
/-- Texts written: the first k with their lengths. -/
def ptB (k : Nat) (l : List ByteArray) : List Int := nby (l.take k) ++ (l.drop k).flatMap nums
theorem ptB_snoc (k : Nat) (m : List ByteArray) (s : ByteArray) : ptB k (m ++ [s]) = ptB k m ++ (if m.length < k then [(s.size : Int)] else []) ++ nums s := by
  unfold ptB
  by_cases h : m.length < k
  · rw [if_pos h, List.take_of_length_le (by simp; omega), List.drop_eq_nil_of_le (by simp; omega), List.take_of_length_le (by omega), List.drop_eq_nil_of_le (by omega), nby_snoc]
    simp
  · rw [if_neg h, List.take_append_of_le_length (by omega), List.drop_append_of_le_length (by omega), List.flatMap_append]
    simp
theorem ptB_len (k : Nat) (l : List ByteArray) : (ptB k l).length = (l.map ByteArray.size).sum + min k l.length := by
  have h1 : ∀ l : List ByteArray, (nby l).length = (l.map ByteArray.size).sum + l.length := by
    intro l
    induction l with
    | nil => simp [nby]
    | cons a l ih =>
      have e : nby (a :: l) = (a.size : Int) :: (nums a ++ nby l) := by simp [nby]
      rw [e]
      simp [ih, nums_len]
      omega
  have h2 : ∀ l : List ByteArray, (l.flatMap nums).length = (l.map ByteArray.size).sum := by
    intro l
    induction l with
    | nil => simp
    | cons a l ih => rw [List.flatMap_cons, List.length_append, ih, nums_len]; simp
  unfold ptB
  rw [List.length_append, h1, h2, List.length_take]
  have h3 : (l.map ByteArray.size).sum = ((l.take k).map ByteArray.size).sum + ((l.drop k).map ByteArray.size).sum := by
    conv => lhs; rw [← List.take_append_drop k l, List.map_append, List.sum_append]
  omega
theorem ptB_take (k j : Nat) (l : List ByteArray) : (ptB k (l.take j)).length ≤ (ptB k l).length := by
  rw [ptB_len, ptB_len, List.map_take, List.length_take]
  have := sum_take' (l.map ByteArray.size) j
  omega
set_option maxRecDepth 100000 in
set_option maxHeartbeats 2000000 in
theorem puttexts_any (W3 w : World) (v : Value) (m : Nat) (L : List Int) (s : Sl) (ss : List ByteArray) (tl kk : Nat) (hg : Gr W3 w v m L) (hn : TRd W3 s ss) (htl : tl ≤ s.n) (hkk : kk = s.n - tl) (hk : ∀ i (h : i < ss.length), i < kk → ss[i].size ≤ 255) (T : Nat) (R : List Int) (hT : m + (ptB kk ss).length = T) (hR : L ++ ptB kk ss = R) (hm : T ≤ 65535) :
    Calls Tryz.prog 137 #[v, .slice s.a s.n s.c, .int .i64 tl] w fun e w' => ∃ v', e = .returned v' ∧ Hid (Gr W3 w' v' T R) := by
  obtain ⟨a1, n1, k1⟩ := s
  simp only at htl hkk
  have HN : Hid (TRd W3 ⟨a1, n1, k1⟩ ss ∧ ∀ i (h : i < ss.length), i < kk → ss[i].size ≤ 255) := ⟨hn, hk⟩
  have HL : Hid (ss.length = n1) := hn.len
  have hc1 : n1 ≤ 9223372036854775807 := Nat.le_trans hn.cap.1 hn.cap.2
  have HM : Hid (m + (ptB kk ss).length ≤ 65535) := by show _ ≤ _; omega
  have HTR : Hid (m + (ptB kk ss).length = T ∧ L ++ ptB kk ss = R) := ⟨hT, hR⟩
  have HG0 : Hid (Gr W3 w v m (L ++ ptB kk (ss.take 0))) := by show Gr _ _ _ _ _; simpa [ptB, nby] using hg
  have hm0 : m ≤ 65535 := by omega
  have hki : (n1 : Int) - (tl : Int) = (kk : Int) := by omega
  have hkw : IntKind.i64.wrap ((n1 : Int) - (tl : Int)) = (kk : Int) := by rw [hki, IntKind.wrap_i64]; omega
  clear hg hn hk hm hT hR hki hkk htl
  simp only
  go_enter Tryz.func137, Tryz.ntmps137
  go_wp2_with fail
  go_loopw [0, 11] (fun v i wr => ∃ k q : Nat, k ≤ n1 ∧ q ≤ 65535 ∧ i = .int .i64 (k : Int) ∧ Hid (Gr W3 wr v q (L ++ ptB kk (ss.take k))) ∧ Hid (q = m + (ptB kk (ss.take k)).length)) (fun _ i _ => n1 - (intOf i).toNat)
  case atStart => exact ⟨0, m, Nat.zero_le _, hm0, rfl, HG0, by show _ = _; simp [ptB, nby]⟩
  case round =>
    obtain ⟨k, q, hkn, hq, rfl, HG, HQ⟩ := hrel
    clear HG0
    by_cases hlt : k < n1
    · have hlt' : (k : Int) < (n1 : Int) := by omega
      have hki : k < ss.length := by rw [HL.out]; exact hlt
      obtain ⟨B1, o1, ha1, hl1, hz1⟩ := (HN.out.1.below HG.out.bel).rd.at k hki
      simp only at ha1
      subst ha1
      have hszk := HN.out.2 k hki
      have HE0 : ptB kk (ss.take (k + 1)) = ptB kk (ss.take k) ++ (if k < kk then [(ss[k].size : Int)] else []) ++ nums ss[k] := by
        rw [List.take_succ_eq_append_getElem hki, ptB_snoc, List.length_take, Nat.min_eq_left (by omega)]
      have hbd := ptB_take kk (k + 1) ss
      generalize ss[k] = s at *
      by_cases hkk : k < kk
      · have hkk' : (k : Int) < (kk : Int) := by omega
        have hs255 := hszk hkk
        rw [if_pos hkk] at HE0
        have HE : Hid (L ++ ptB kk (ss.take (k + 1)) = L ++ ptB kk (ss.take k) ++ [(s.size : Int)] ++ nums s) := by
          show _ = _
          rw [HE0]; simp only [List.append_assoc]
        have HQ2 : Hid (q + 1 + s.size = m + (ptB kk (ss.take (k + 1))).length) := by
          show _ = _
          rw [HE0, List.length_append, List.length_append, HQ.out, nums_len]
          simp only [List.length_cons, List.length_nil]
          omega
        have hq2 : q + 1 + s.size ≤ 65535 := by have h1 := HQ2.out; have h3 := HM.out; omega
        have HG5 : Hid (Gr W3 (wr.alloc (.cells #[.int .u8 (s.size : Int)] 5)) u0 q (L ++ ptB kk (ss.take k))) := HG.out.go ((Below.refl _ _).alloc (Nat.le_refl _) _)
        have HR5 : Hid (Rd (wr.alloc (.cells #[.int .u8 (s.size : Int)] 5)) (some ⟨wr.heap.size, 0, none⟩) [(s.size : Int)]) := new_rd wr _ (by omega)
        have hmod : (s.size : Int) % 256 = (s.size : Int) := by omega
        clear HE0 HQ hbd hszk
        go_wp2_with (at_builtin; first
          | (refine wp_gr W3 _ rfl _ _ rfl u0 q (L ++ ptB kk (ss.take k)) rfl HG5.out (some ⟨wr.heap.size, 0, none⟩) 1 1 [(s.size : Int)] rfl HR5.out rfl (by simp) (by omega) ?_; intro v6 W6 HG6)
          | (refine wp_grs W3 _ rfl _ _ rfl _ (q + 1) (L ++ ptB kk (ss.take k) ++ [(s.size : Int)]) rfl HG6.out s rfl (by omega) ?_; intro v7 W7 HG7))
        refine ⟨⟨k + 1, q + 1 + s.size, by omega, hq2, by go_num, ?_, HQ2⟩, by simp [intOf]; omega⟩
        have := HG7.out
        rw [← HE.out] at this
        exact this
      · have hkk' : ¬ (k : Int) < (kk : Int) := by omega
        rw [if_neg hkk, List.append_nil] at HE0
        have HE : Hid (L ++ ptB kk (ss.take (k + 1)) = L ++ ptB kk (ss.take k) ++ nums s) := by
          show _ = _
          rw [HE0]; simp only [List.append_assoc]
        have HQ2 : Hid (q + s.size = m + (ptB kk (ss.take (k + 1))).length) := by
          show _ = _
          rw [HE0, List.length_append, HQ.out, nums_len]
          omega
        have hq2 : q + s.size ≤ 65535 := by have h1 := HQ2.out; have h3 := HM.out; omega
        clear HE0 HQ hbd hszk
        go_wp2_with (at_builtin; refine wp_grs W3 _ rfl _ _ rfl u0 q (L ++ ptB kk (ss.take k)) rfl HG.out s rfl (by omega) ?_; intro v7 W7 HG7)
        refine ⟨⟨k + 1, q + s.size, by omega, hq2, by go_num, ?_, HQ2⟩, by simp [intOf]; omega⟩
        have := HG7.out
        rw [← HE.out] at this
        exact this
    · have hge : ¬ (k : Int) < (n1 : Int) := by omega
      have HG2 : Hid (Gr W3 wr u0 T R) := by
        have h1 := HG.out
        have h2 := HQ.out
        rw [List.take_of_length_le (by rw [HL.out]; omega)] at h1 h2
        rw [h2, HTR.out.1, HTR.out.2] at h1
        exact h1
      clear HG HQ
      go_wp2_with fail
      go_ret
      exact ⟨_, rfl, HG2⟩
theorem ptB_all (l : List ByteArray) : ptB (l.length - 0) l = nby l := by unfold ptB; simp
/-- What the program writes is what the document writes. -/
theorem wr_eq (t : Nat) (d : Dat) (h : fitsB t d = true) : d.ns.flatMap nmB = (d.ns.take (fs t).nf).flatMap nmB ++ (d.ns.drop (fs t).nf).flatMap nmB ∧ (fs t).nf ≤ d.ns.length ∧ ((fs t).nf = 0 ∨ (fs t).nf = d.ns.length) ∧ (fs t).wd = (shp t).wd ∧ (fs t).tl ≤ d.ts.length ∧
    (d.ns.take (fs t).nf).flatMap nmB ++ d.us.flatMap (fun n => numB n (fs t).wd) ++ (d.ns.drop (fs t).nf).flatMap nmB ++ ptB (d.ts.length - (fs t).tl) d.ts ++ d.raw = writeF t d := by
  refine ⟨by conv => lhs; rw [← List.take_append_drop (fs t).nf d.ns, List.flatMap_append], ?_⟩
  obtain ⟨fns, fus, fts, ft1, fraw, fun_, ftx, ftg⟩ := (fit_iff t d).1 h
  obtain ⟨ns, us, ts, raw⟩ := d
  simp only at fns fus fts ft1 fraw fun_ ftx ftg ⊢
  rcases fs_cases t with ⟨ht, e⟩ | ⟨ht, e⟩ | ⟨ht, e⟩ | ⟨ht, e⟩ | ⟨ht, e⟩ | ⟨ht, e⟩ | ⟨ht, e⟩ | ⟨ht, e⟩ | ⟨ht, e⟩
  · subst ht
    have hts : ts = [] := nil_of (by have e2 : (shp 1).nt = 0 := rfl; omega)
    subst hts
    rw [e]; simp [writeF, tsB, ptB, nby, shp]
  · subst ht
    have hts : ts = [] := nil_of (by have e2 : (shp 28).nt = 0 := rfl; omega)
    subst hts
    rw [e]; simp [writeF, tsB, ptB, nby, shp]
  · rcases ht with rfl | rfl | rfl
    · have hts : ts = [] := nil_of (by have e2 : (shp 2).nt = 0 := rfl; omega)
      subst hts
      rw [e]; simp [writeF, tsB, ptB, nby, shp]
    · have hts : ts = [] := nil_of (by have e2 : (shp 5).nt = 0 := rfl; omega)
      subst hts
      rw [e]; simp [writeF, tsB, ptB, nby, shp]
    · have hts : ts = [] := nil_of (by have e2 : (shp 12).nt = 0 := rfl; omega)
      subst hts
      rw [e]; simp [writeF, tsB, ptB, nby, shp]
  · subst ht
    have hts : ts = [] := nil_of (by have e2 : (shp 6).nt = 0 := rfl; omega)
    have hrw : raw = [] := nil_of (by have e2 : (shp 6).nr = 0 := rfl; omega)
    have hns : ns.length = 2 := fns
    subst hts
    subst hrw
    rw [e]
    refine ⟨by simp; omega, .inr (by simp; omega), rfl, by simp, ?_⟩
    simp only
    rw [List.take_of_length_le (by omega), List.drop_eq_nil_of_le (by omega)]
    simp [writeF, ptB, nby]
  · subst ht
    have hts : ts = [] := nil_of (by have e2 : (shp 15).nt = 0 := rfl; omega)
    subst hts
    rw [e]; simp [writeF, tsB, ptB, nby, shp]
  · subst ht
    have hts : ts = [] := nil_of (by have e2 : (shp 33).nt = 0 := rfl; omega)
    subst hts
    rw [e]; simp [writeF, tsB, ptB, nby, shp]
  · subst ht
    rw [e]; simp [writeF, tsB, ptB, nby, shp]
  · subst ht
    have h2 : ts.length = 2 := by have e2 : (shp 257).nt = 2 := rfl; omega
    rcases ts with _ | ⟨a, _ | ⟨b, _ | ⟨c, ts⟩⟩⟩
    · simp at h2
    · simp at h2
    · rw [e]; simp [writeF, tsB, ptB, nby, shp]
    · simp at h2
  · obtain ⟨h1, h2, h3, h4, h5, h6, h7, h8, h9, h10⟩ := ht
    have es' : shp t = ⟨0, 0, 0, -1, 0⟩ := by unfold shp; simp [h1, h2, h3, h4, h5, h6, h7, h8, h9, h10]
    rw [es'] at fts fns fus
    have hts : ts = [] := nil_of (by simp only at fts; omega)
    subst hts
    rw [e, es']
    simp [writeF, tsB, ptB, nby, h6, es']
end Go.Proofs.YtkjnbgekaifdfaaGreat
namespace Go.Proofs.YtkjnbgekaifdfaaGreat
open Go.ChangeShapes Go.WideShapes Go.ChangeAt Go.RowKit
set_option linter.unusedVariables false
set_option linter.unusedSimpArgs false
theorem NRd.front {w : World} {s : Sl} {nss : List (List ByteArray)} (h : NRd w s nss) (k : Nat) (hk : k ≤ s.n) : NRd w ⟨s.a, k, s.c⟩ (nss.take k) := by
  refine ⟨?_, by rw [List.length_take, h.len]; exact Nat.min_eq_left hk, ⟨Nat.le_trans hk h.cap.1, h.cap.2⟩, h.nil⟩
  rcases h.rd with h1 | ⟨b, o, h1, h2, h3⟩
  · left; rw [h1]; simp
  · refine .inr ⟨b, o, h1, h2, fun i hi => ?_⟩
    rw [List.length_take] at hi
    obtain ⟨x, e1, e2⟩ := h3 i (by omega)
    exact ⟨x, e1, by simpa using e2⟩
theorem NRd.none_ (w : World) (a : Option Addr) (c : Nat) (hc : c ≤ 9223372036854775807) (hn : a = none → c = 0) : NRd w ⟨a, 0, c⟩ [] := ⟨.inl rfl, rfl, ⟨Nat.zero_le _, hc⟩, hn⟩
end Go.Proofs.YtkjnbgekaifdfaaGreat
namespace Go.Proofs.YtkjnbgekaifdfaaGreat
open Go.ChangeShapes Go.WideShapes Go.ChangeAt Go.RowKit
set_option linter.unusedVariables false
set_option linter.unusedSimpArgs false
/-- Data's box. -/
def DBlk (w : World) (D : Nat) (x : DA) : Prop := w.heap[D]? = some (.cells #[.slice x.p1.a x.p1.n x.p1.c, .slice x.p2.a x.p2.n x.p2.c, .slice x.p3.a x.p3.n x.p3.c, .slice x.p4.a x.p4.n x.p4.c] 60 (0, 0))
theorem DBlk.lt {w : World} {D : Nat} {x : DA} (h : DBlk w D x) : D < w.heap.size := (Array.getElem?_eq_some_iff.1 h).1
theorem DBlk.same {w w' : World} {D : Nat} {x : DA} (h : DBlk w D x) (hb : w'.heap[D]? = w.heap[D]?) : DBlk w' D x := hb.trans h
theorem DBlk.box {w : World} {D : Nat} {x : DA} (h : DBlk w D x) : DBox w D x := by
  have h' : w.heap[D]? = _ := h
  refine ⟨?_, ?_, ?_, ?_, h.lt⟩ <;> simp [World.cell?, h']
theorem DBlk.fz {w : World} {D : Nat} {x : DA} (h : DBlk w D x) (i : Nat) : w.frozen? ⟨D, i, none⟩ = false := by
  have h' : w.heap[D]? = _ := h
  simp [World.frozen?, h']
theorem DBlk.set0 {w : World} {D : Nat} {x : DA} (h : DBlk w D x) (s : Sl) : DBlk (w.setCell ⟨D, 0, none⟩ (.slice s.a s.n s.c)) D ⟨s, x.p2, x.p3, x.p4⟩ := (heap_set h 0 _).trans (by simp)
theorem tyNs : ElemTy Tryz.prog 57 51 (.slice none 0 0) 24 := ⟨Tryz.underlying57, by kernel_rfl, rfl⟩
theorem rgo_le (l : List Int) : ∀ (n p : Nat) (out o : List ByteArray) (q : Nat), l.length - p ≤ n → rgo l p out = some (o, q) → q ≤ l.length := by
  intro n
  induction n with
  | zero =>
    intro p out o q hn h
    rw [rgo_end l p out (by omega)] at h
    cases h
  | succ n ih =>
    intro p out o q hn h
    by_cases h1 : p < l.length ∧ l.getD p 0 ≤ 63
    · by_cases h0 : l.getD p 0 = 0
      · rw [rgo_zero l p out h1 h0] at h
        cases h
        omega
      · by_cases h2 : (l.length : Int) - ((p : Int) + 1) < l.getD p 0
        · rw [rgo_short l p out h1 h0 h2] at h; cases h
        · rw [rgo_step l p out h1 h0 h2] at h
          exact ih _ _ _ _ (by omega) h
    · rw [rgo_end l p out h1] at h; cases h
theorem gName_le {zs : List Int} {p : Nat} {o : List ByteArray} {q : Nat} (h : gName zs p = some (o, q)) : q ≤ zs.length ∧ nck o = 0 ∧ p < zs.length ∧ nread zs p = (o, (q : Int), 0) := by
  unfold gName at h
  split at h
  · rename_i hp
    split at h
    · rename_i o' q' hr
      split at h
      · rename_i hk
        cases h
        refine ⟨rgo_le zs _ _ _ _ _ (Nat.le_refl _) hr, hk, hp, ?_⟩
        unfold nread
        rw [if_neg (by omega), Int.toNat_natCast, hr]
        simp [hk]
      · cases h
    · cases h
  · cases h
end Go.Proofs.YtkjnbgekaifdfaaGreat
namespace Go.Proofs.YtkjnbgekaifdfaaGreat
open Go.ChangeShapes Go.WideShapes Go.ChangeAt Go.RowKit
set_option linter.unusedVariables false
set_option linter.unusedSimpArgs false
/-- No data. -/
abbrev nilDA : DA := ⟨⟨none, 0, 0⟩, ⟨none, 0, 0⟩, ⟨none, 0, 0⟩, ⟨none, 0, 0⟩⟩
theorem own_brd {B : Nat} {w : World} {s : Sl} {zs ys : List Int} (h : Own B w (.slice s.a s.n s.c) zs.length ys) (ht : ys.take zs.length = zs) : BRd w s zs := by
  obtain ⟨sa, sn, sc⟩ := s
  obtain ⟨ao, e, hoa⟩ := h.addr
  injection e with e1 e2 e3
  simp only at e1 e2 e3
  subst e1 e2 e3
  have hrd := hoa.rdTake zs.length
  rw [ht] at hrd
  refine ⟨hrd, rfl, ?_, ?_⟩
  · rcases h with ⟨_, h0, h1⟩ | ⟨g, _, _, _, h1, h2⟩
    · subst h1; simp [h0]
    · exact ⟨h1, by simp only [maxLen] at h2; exact h2⟩
  · intro hn
    rcases h with ⟨_, _, h1⟩ | ⟨g, e, _⟩
    · subst h1; rfl
    · simp only at hn e; rw [hn] at e; cases e
/-- Numbers of one's own. -/
def UOwn (B : Nat) (w : World) (s : Sl) (us : List Nat) : Prop := ∃ xs, OwnV B w 56 (.slice s.a s.n s.c) us.length xs ∧ xs.take us.length = uv us ∧ (∀ u ∈ us, u ≤ 4294967295) ∧ ∀ v ∈ xs, ∃ z : Int, v = .int .u32 z ∧ 0 ≤ z ∧ z ≤ 4294967295
/-- Bytes of one's own. -/
def BOwn (B : Nat) (w : World) (s : Sl) (zs : List Int) : Prop := ∃ ys, Own B w (.slice s.a s.n s.c) zs.length ys ∧ ys.take zs.length = zs
theorem UOwn.keep {B : Nat} {w w' : World} {s : Sl} {us : List Nat} (h : UOwn B w s us) (hb : ∀ j, B ≤ j → j < w.heap.size → w'.heap[j]? = w.heap[j]?) : UOwn B w' s us := by
  obtain ⟨xs, h1, h2⟩ := h
  exact ⟨xs, h1.keep (fun j e hj => hb j (h1.lt j e) hj), h2⟩
theorem own_keep2 {B : Nat} {w w' : World} {v : Value} {n : Nat} {zs : List Int} (h : Own B w v n zs) (hb : ∀ j, B ≤ j → j < w.heap.size → w'.heap[j]? = w.heap[j]?) : Own B w' v n zs := by
  rcases h with h | ⟨g, h1, h2, h3, h4⟩
  · exact .inl h
  · exact .inr ⟨g, h1, h2, h3.same (hb g h2 h3.lt), h4⟩
theorem BOwn.keep {B : Nat} {w w' : World} {s : Sl} {zs : List Int} (h : BOwn B w s zs) (hb : ∀ j, B ≤ j → j < w.heap.size → w'.heap[j]? = w.heap[j]?) : BOwn B w' s zs := by
  obtain ⟨ys, h1, h2⟩ := h
  exact ⟨ys, own_keep2 h1 hb, h2⟩
theorem UOwn.rd {B : Nat} {w : World} {s : Sl} {us : List Nat} (h : UOwn B w s us) : URd w s us := by
  obtain ⟨xs, h1, h2, h3⟩ := h
  obtain ⟨sa, sn, sc⟩ := s
  obtain ⟨ao, e, hnil⟩ := h1.shape
  have hle := h1.le
  injection e with e1 e2 e3
  simp only at e1 e2 e3
  subst e1 e2 e3
  have hrd := h1.rd us.length
  rw [h2] at hrd
  exact ⟨hrd, rfl, ⟨hle.1, by have := hle.2; simp only [maxLen] at this; exact this⟩, hnil, h3.1⟩
theorem BOwn.rd {B : Nat} {w : World} {s : Sl} {zs : List Int} (h : BOwn B w s zs) : BRd w s zs := by
  obtain ⟨ys, h1, h2⟩ := h
  exact own_brd h1 h2
end Go.Proofs.YtkjnbgekaifdfaaGreat
namespace Go.Proofs.YtkjnbgekaifdfaaGreat
open Go.ChangeShapes Go.WideShapes Go.ChangeAt Go.RowKit
set_option linter.unusedVariables false
set_option linter.unusedSimpArgs false
theorem step_append_row {P : Program} {t e : TypeId} {z : Value} {bt : Nat} (T : ElemTy P t e z bt) {w : World} {ops : Array Oper} {o : Oper} {a : Act} {K : Act → World → Prop} {Q : Exit → Act → World → Prop} {E : Prop} (hgd : o.guard = none) (s x : Operand) (tx : TypeId)
    (ho : o.op = .call { callee := .builtin .append, args := #[s, x], argTypes := #[t, tx] }) (B : Nat) (v : Value) (n : Nat) (xs : List Value) (hs : a.eval s = v) (hown : OwnV B w e v n xs)
    (xv : Value) (m : Nat) (news : List Value) (hx : a.eval x = xv) (hsrc : Src P 1 tx xv m news w) (hb : (n + m) * bt ≤ 140737488355328) (h63 : n + m ≤ maxLen) (hB : B ≤ w.heap.size)
    (h : ∀ v' w' xs', Hid (OwnV B w' e v' (n + m) xs') → Hid (xs'.take (n + m) = xs.take n ++ news) → Hid (w.grownBy w' v.ownBlock) → Hid (∀ Q : Value → Prop, Q z → (∀ u ∈ xs, Q u) → (∀ u ∈ news, Q u) → ∀ u ∈ xs', Q u) → K (a.put o.dst v') w') :
    if Region.wanted o (yielded ops a.tmps) = true then Oper.wp P o a w K Q else E := by
  have hw : Region.wanted o (yielded ops a.tmps) = true := by simp [Region.wanted, hgd]
  rw [if_pos hw]
  obtain ⟨v', w', xs', hrun, h2, h3, h4, h5⟩ := run_append_row T w B tx o.type v n xs hown xv m news hsrc hb h63 hB
  unfold Oper.wp execOp
  simp only [ho, resolve, invoke, builtin, Sem.run_bind, Sem.run_pure, Result.andThen_ok, List.map_toArray, List.map_cons, List.map_nil, hs, hx, hrun]
  exact h v' w' xs' h2 h3 h4 h5.1
theorem tyU : ElemTy Tryz.prog 58 56 (.int .u32 0) 4 := ⟨Tryz.underlying58, by kernel_rfl, rfl⟩
end Go.Proofs.YtkjnbgekaifdfaaGreat
namespace Go.Proofs.YtkjnbgekaifdfaaGreat
open Go.ChangeShapes Go.WideShapes Go.ChangeAt Go.RowKit
set_option linter.unusedVariables false
set_option linter.unusedSimpArgs false
theorem UOwn.stays {B : Nat} {w w' : World} {s : Sl} {us : List Nat} (h : UOwn B w s us) (hb : Below w.heap.size w w') : UOwn B w' s us := h.keep fun j _ h2 => hb.block j h2
theorem BOwn.stays {B : Nat} {w w' : World} {s : Sl} {zs : List Int} (h : BOwn B w s zs) (hb : Below w.heap.size w w') : BOwn B w' s zs := h.keep fun j _ h2 => hb.block j h2
/-- A number read. -/
def pnu (zs : List Int) (st : Option Nat) (wd : Nat) : Nat := (val (tk zs st (wd : Int))).toNat
/-- Numbers read one behind the other. -/
def pnus (zs : List Int) (len : Nat) : Option Nat → Nat → Nat → List Nat × Option Nat
  | st, _, 0 => ([], st)
  | st, wd, k + 1 => let r := pnus zs len st wd k; (r.1 ++ [pnu zs r.2 wd], mv len r.2 (wd : Int))
theorem pnus_len (zs : List Int) (len : Nat) (st : Option Nat) (wd : Nat) : ∀ k, (pnus zs len st wd k).1.length = k
  | 0 => rfl
  | k + 1 => by simp [pnus, pnus_len zs len st wd k]
end Go.Proofs.YtkjnbgekaifdfaaGreat
namespace Go.Proofs.YtkjnbgekaifdfaaGreat
open Go.ChangeShapes Go.WideShapes Go.ChangeAt Go.RowKit
set_option linter.unusedVariables false
set_option linter.unusedSimpArgs false
/-- A name read, and where the reader is then. -/
def pnm1 (zs : List Int) (len : Nat) (st : Option Nat) : List ByteArray × Option Nat := ((nread zs (pos st)).1, jm len st (if (nread zs (pos st)).2.2 = 0 then (nread zs (pos st)).2.1 else -1))
def pnms (zs : List Int) (len : Nat) (st : Option Nat) : Nat → List (List ByteArray) × Option Nat
  | 0 => ([], st)
  | k + 1 => ((pnms zs len st k).1 ++ [(pnm1 zs len (pnms zs len st k).2).1], (pnm1 zs len (pnms zs len st k).2).2)
theorem pnms_len (zs : List Int) (len : Nat) (st : Option Nat) : ∀ k, (pnms zs len st k).1.length = k
  | 0 => rfl
  | k + 1 => by simp [pnms, pnms_len zs len st k]
theorem one_n (w : World) (s : Sl) : RdV (w.alloc (.cells #[.slice s.a s.n s.c] 51)) (some ⟨w.heap.size, 0, none⟩) [.slice s.a s.n s.c] := by
  refine .inr ⟨w.heap.size, 0, rfl, by simp, fun i hi => ?_⟩
  have : i = 0 := by simp at hi; omega
  subst this
  unfold World.cell?
  rw [heap_alloc_new]
  rfl
end Go.Proofs.YtkjnbgekaifdfaaGreat
namespace Go.Proofs.YtkjnbgekaifdfaaGreat
open Go.ChangeShapes Go.WideShapes Go.ChangeAt Go.RowKit
set_option linter.unusedVariables false
set_option linter.unusedSimpArgs false
theorem tk_size (zs : List Int) (len : Nat) (hl : zs.length = len) (st : Option Nat) (n : Int) : (tk zs st n).length ≤ len := by
  unfold tk
  split
  · split
    · simp; omega
    · simp
  · simp
/-- Texts read up toq the end. -/
def ptxF (zs : List Int) (len : Nat) : Nat → Option Nat → List ByteArray × Option Nat
  | 0, st => ([], st)
  | k + 1, st => if 0 < lft len st then (lb (tk zs (mv len st 1) (val (tk zs st 1))) :: (ptxF zs len k (mv len (mv len st 1) (val (tk zs st 1)))).1, (ptxF zs len k (mv len (mv len st 1) (val (tk zs st 1)))).2) else ([], st)
theorem ptxF_end (zs : List Int) (len k : Nat) (st : Option Nat) (h : ¬ 0 < lft len st) : ptxF zs len k st = ([], st) := by
  cases k with
  | zero => rfl
  | succ k => unfold ptxF; rw [if_neg h]
/-- Two texts read: one with its length ahead, one up toq the end. -/
def ptx2 (zs : List Int) (len : Nat) (st : Option Nat) : List ByteArray × Option Nat :=
  let z := val (tk zs st 1)
  let s1 := mv len st 1
  let s2 := mv len s1 z
  ([lb (tk zs s1 z), lb (tk zs s2 (lft len s2))], mv len s2 (lft len s2))
end Go.Proofs.YtkjnbgekaifdfaaGreat
namespace Go.Proofs.YtkjnbgekaifdfaaGreat
open Go.ChangeShapes Go.WideShapes Go.ChangeAt Go.RowKit
set_option linter.unusedVariables false
set_option linter.unusedSimpArgs false
theorem UOwn.keepTy {B : Nat} {w w' : World} {s : Sl} {us : List Nat} (h : UOwn B w s us) (hb : ∀ j, B ≤ j → j < w.heap.size → (∃ zs, BlkV w j 56 zs) → w'.heap[j]? = w.heap[j]?) : UOwn B w' s us := by
  obtain ⟨xs, h1, h2, h3⟩ := h
  refine ⟨xs, ?_, h2, h3⟩
  rcases h1 with h1 | ⟨g, e, hg, hblk, hn⟩
  · exact .inl h1
  · exact .inr ⟨g, e, hg, hblk.same (hb g hg hblk.lt ⟨_, hblk⟩), hn⟩
theorem blk_ty {w : World} {j : Nat} {t1 t2 : TypeId} {xs ys : List Value} (h1 : BlkV w j t1 xs) (h2 : BlkV w j t2 ys) : t1 = t2 := by
  have hh : w.heap[j]? = some (.cells xs.toArray t1 (0, 0)) := h1
  have hh' : w.heap[j]? = some (.cells ys.toArray t2 (0, 0)) := h2
  rw [hh] at hh'
  injection hh' with hh'
  injection hh'
/-- What was read, by fields: data, and where the reader is then. -/
def ptxs (f : Fs) (zs : List Int) (len : Nat) (st : Option Nat) : List ByteArray × Option Nat := if f.nt = -1 then ptxF zs len (len + 1) st else if f.nt = 2 then ptx2 zs len st else ([], st)
end Go.Proofs.YtkjnbgekaifdfaaGreat
