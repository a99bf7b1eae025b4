/- Texts laid together, in parts: Ha Hb Hc Nxa Hd He Nsw Hf Fe Ff Nxh Oca Ocb Occ Ocd. -/
import Derived.Test.YtkjnbgekaifdfaaGreatWpa
import Derived.Lib.Bytealg
import Derived.LaidEqlPtr
import Derived.WalkSpells
import Derived.Deep.RegionHeld3
set_option maxRecDepth 100000
set_option linter.unusedVariables false
set_option linter.unusedSimpArgs false
namespace Go.Proofs.YtkjnbgekaifdfaaGreat
open Go.ChangeShapes Go.WideShapes Go.ChangeAt Go.RowKit
structure Fs where
 nn : Nat
 nf : Nat
 nu : Nat
 wd : Nat
 nt : Int
 tg : Nat
 tl : Nat
 nr : Int
def fs (t : Nat) : Fs :=
 if t = 1 then ⟨0, 0, 0, 0, 0, 0, 0, 4⟩ else if t = 28 then ⟨0, 0, 0, 0, 0, 0, 0, 16⟩ else if t = 2 ∨ t = 5 ∨ t = 12 then ⟨1, 0, 0, 0, 0, 0, 0, 0⟩ else if t = 6 then ⟨2, 2, 5, 4, 0, 0, 0, 0⟩ else
 if t = 15 then ⟨1, 0, 1, 2, 0, 0, 0, 0⟩ else if t = 33 then ⟨1, 0, 3, 2, 0, 0, 0, 0⟩ else if t = 16 then ⟨0, 0, 0, 0, -1, 0, 0, 0⟩ else if t = 257 then ⟨0, 0, 1, 1, 2, 1, 1, 0⟩ else ⟨0, 0, 0, 0, 0, 0, 0, -2⟩
theorem fs_cases (t : Nat) : (t = 1 /\ fs t = ⟨0, 0, 0, 0, 0, 0, 0, 4⟩) ∨ (t = 28 /\ fs t = ⟨0, 0, 0, 0, 0, 0, 0, 16⟩) ∨ ((t = 2 ∨ t = 5 ∨ t = 12) /\ fs t = ⟨1, 0, 0, 0, 0, 0, 0, 0⟩) ∨ (t = 6 /\ fs t = ⟨2, 2, 5, 4, 0, 0, 0, 0⟩) ∨
   (t = 15 /\ fs t = ⟨1, 0, 1, 2, 0, 0, 0, 0⟩) ∨ (t = 33 /\ fs t = ⟨1, 0, 3, 2, 0, 0, 0, 0⟩) ∨ (t = 16 /\ fs t = ⟨0, 0, 0, 0, -1, 0, 0, 0⟩) ∨ (t = 257 /\ fs t = ⟨0, 0, 1, 1, 2, 1, 1, 0⟩) ∨
   ((t ≠ 1 /\ t ≠ 28 /\ t ≠ 2 /\ t ≠ 5 /\ t ≠ 12 /\ t ≠ 6 /\ t ≠ 15 /\ t ≠ 33 /\ t ≠ 16 /\ t ≠ 257) /\ fs t = ⟨0, 0, 0, 0, 0, 0, 0, -2⟩) := by
 unfold fs
 by_cases h1 : t = 1
 · simp [h1]
 by_cases h2 : t = 28
 · simp [h2]
 by_cases h3 : t = 2 ∨ t = 5 ∨ t = 12
 · rcases h3 with h | h | h <;> simp [h]
 by_cases h4 : t = 6
 · simp [h4]
 by_cases h5 : t = 15
 · simp [h5]
 by_cases h6 : t = 33
 · simp [h6]
 by_cases h7 : t = 16
 · simp [h7]
 by_cases h8 : t = 257
 · simp [h8]
 · rw [if_neg h1, if_neg h2, if_neg h3, if_neg h4, if_neg h5, if_neg h6, if_neg h7, if_neg h8]
   simp only [not_or] at h3
   exact .inr (.inr (.inr (.inr (.inr (.inr (.inr (.inr ⟨⟨h1, h2, h3.1, h3.2.1, h3.2.2, h4, h5, h6, h7, h8⟩, rfl⟩)))))))
set_option maxHeartbeats 2000000 in
theorem fieldsof_any (t : Nat) (w : World) : Calls Tryz.prog 97 #[.int .u16 t] w fun e w' => e = .returned (.agg #[.int .i64 (fs t).nn, .int .i64 (fs t).nf, .int .i64 (fs t).nu, .int .i64 (fs t).wd, .int .i64 (fs t).nt, .int .i64 (fs t).tg, .int .i64 (fs t).tl, .int .i64 (fs t).nr]) /\ Hid (Below w.heap.size w w') := by
 rcases fs_cases t with ⟨ht, e⟩ | ⟨ht, e⟩ | ⟨ht, e⟩ | ⟨ht, e⟩ | ⟨ht, e⟩ | ⟨ht, e⟩ | ⟨ht, e⟩ | ⟨ht, e⟩ | ⟨ht, e⟩
 · subst ht; rw [e]; clear e
   go_enter Tryz.func97, Tryz.ntmps97
   go_wp2_with fail
   exact bodyPost_ret (v := .agg #[.int .i64 0, .int .i64 0, .int .i64 0, .int .i64 0, .int .i64 0, .int .i64 0, .int .i64 0, .int .i64 4]) (by simp [results, Tryz.results97, go_sem]) rfl ⟨rfl, (Below.refl _ _).alloc (Nat.le_refl _) _⟩
 · subst ht; rw [e]; clear e
   go_enter Tryz.func97, Tryz.ntmps97
   go_wp2_with fail
   exact bodyPost_ret (v := .agg #[.int .i64 0, .int .i64 0, .int .i64 0, .int .i64 0, .int .i64 0, .int .i64 0, .int .i64 0, .int .i64 16]) (by simp [results, Tryz.results97, go_sem]) rfl ⟨rfl, (Below.refl _ _).alloc (Nat.le_refl _) _⟩
 · rw [e]; clear e
   rcases ht with rfl | rfl | rfl
   all_goals
     go_enter Tryz.func97, Tryz.ntmps97
     go_wp2_with fail
     exact bodyPost_ret (v := .agg #[.int .i64 1, .int .i64 0, .int .i64 0, .int .i64 0, .int .i64 0, .int .i64 0, .int .i64 0, .int .i64 0]) (by simp [results, Tryz.results97, go_sem]) rfl ⟨rfl, (Below.refl _ _).alloc (Nat.le_refl _) _⟩
 · subst ht; rw [e]; clear e
   go_enter Tryz.func97, Tryz.ntmps97
   go_wp2_with fail
   exact bodyPost_ret (v := .agg #[.int .i64 2, .int .i64 2, .int .i64 5, .int .i64 4, .int .i64 0, .int .i64 0, .int .i64 0, .int .i64 0]) (by simp [results, Tryz.results97, go_sem]) rfl ⟨rfl, (Below.refl _ _).alloc (Nat.le_refl _) _⟩
 · subst ht; rw [e]; clear e
   go_enter Tryz.func97, Tryz.ntmps97
   go_wp2_with fail
   exact bodyPost_ret (v := .agg #[.int .i64 1, .int .i64 0, .int .i64 1, .int .i64 2, .int .i64 0, .int .i64 0, .int .i64 0, .int .i64 0]) (by simp [results, Tryz.results97, go_sem]) rfl ⟨rfl, (Below.refl _ _).alloc (Nat.le_refl _) _⟩
 · subst ht; rw [e]; clear e
   go_enter Tryz.func97, Tryz.ntmps97
   go_wp2_with fail
   exact bodyPost_ret (v := .agg #[.int .i64 1, .int .i64 0, .int .i64 3, .int .i64 2, .int .i64 0, .int .i64 0, .int .i64 0, .int .i64 0]) (by simp [results, Tryz.results97, go_sem]) rfl ⟨rfl, (Below.refl _ _).alloc (Nat.le_refl _) _⟩
 · subst ht; rw [e]; clear e
   go_enter Tryz.func97, Tryz.ntmps97
   go_wp2_with fail
   exact bodyPost_ret (v := .agg #[.int .i64 0, .int .i64 0, .int .i64 0, .int .i64 0, .int .i64 (-1), .int .i64 0, .int .i64 0, .int .i64 0]) (by simp [results, Tryz.results97, go_sem]) rfl ⟨rfl, (Below.refl _ _).alloc (Nat.le_refl _) _⟩
 · subst ht; rw [e]; clear e
   go_enter Tryz.func97, Tryz.ntmps97
   go_wp2_with fail
   exact bodyPost_ret (v := .agg #[.int .i64 0, .int .i64 0, .int .i64 1, .int .i64 1, .int .i64 2, .int .i64 1, .int .i64 1, .int .i64 0]) (by simp [results, Tryz.results97, go_sem]) rfl ⟨rfl, (Below.refl _ _).alloc (Nat.le_refl _) _⟩
 · rw [e]; clear e
   obtain ⟨h1, h2, h3, h4, h5, h6, h7, h8, h9, h10⟩ := ht
   have q1 : ((t : Int) == 1) = false := by simp; omega
   have q2 : ((t : Int) == 28) = false := by simp; omega
   have q3 : ((t : Int) == 2) = false := by simp; omega
   have q4 : ((t : Int) == 5) = false := by simp; omega
   have q5 : ((t : Int) == 12) = false := by simp; omega
   have q6 : ((t : Int) == 6) = false := by simp; omega
   have q7 : ((t : Int) == 15) = false := by simp; omega
   have q8 : ((t : Int) == 33) = false := by simp; omega
   have q9 : ((t : Int) == 16) = false := by simp; omega
   have q10 : ((t : Int) == 257) = false := by simp; omega
   clear h1 h2 h3 h4 h5 h6 h7 h8 h9 h10
   go_enter Tryz.func97, Tryz.ntmps97
   go_wp2_with fail
   exact bodyPost_ret (v := .agg #[.int .i64 0, .int .i64 0, .int .i64 0, .int .i64 0, .int .i64 0, .int .i64 0, .int .i64 0, .int .i64 (-2)]) (by simp [results, Tryz.results97, go_sem]) rfl ⟨rfl, (Below.refl _ _).alloc (Nat.le_refl _) _⟩
set_option maxHeartbeats 1000000 in
theorem asked_any (t : Int) (w : World) : Calls Tryz.prog 131 #[.int .u16 t] w fun e w' => e = .returned (.bool (decide (128 <= t) && decide (t <= 255))) /\ w' = w := by
 go_enter Tryz.func131, Tryz.ntmps131
 go_wp2
 all_goals
   go_ret
   refine ⟨ret_bool ?_, rfl⟩
   simp_all
   try omega
set_option maxHeartbeats 1000000 in
theorem hasdata_any (t : Nat) (w : World) : Calls Tryz.prog 96 #[.int .u16 t] w fun e w' => e = .returned (.bool (mayT t)) /\ w' = w := by
 have HS : Hid (∀ W, Calls Tryz.prog 117 #[.int .u16 t] W fun e w' => e = .returned (.bool (decide (t ≠ 0) && decide (t ≠ 41) && (decide (t < 128) || decide (255 < t)))) /\ w' = W) := by
   intro W
   go_enter Tryz.func117, Tryz.ntmps117
   by_cases h0 : t = 0
   · subst h0
     go_wp2_with fail
     go_ret
     exact ⟨ret_bool (by decide), rfl⟩
   · by_cases h1 : t = 41
     · subst h1
       go_wp2_with fail
       go_ret
       exact ⟨ret_bool (by decide), rfl⟩
     · have q0 : ((t : Int) == 0) = false := by simp; omega
       have q1 : ((t : Int) == 41) = false := by simp; omega
       go_wp2_with fail
       refine (asked_any t _).mono ?_
       rintro e W ⟨rfl, rfl⟩
       go_wp2_with fail
       go_ret
       refine ⟨ret_bool ?_, rfl⟩
       simp [h0, h1]
       by_cases h2 : t < 128
       · simp [h2]; omega
       · by_cases h3 : 255 < t
         · simp [h3]; omega
         · simp [h2, h3]; omega
 go_enter Tryz.func96, Tryz.ntmps96
 by_cases h1 : t = 41
 · subst h1
   go_wp2_with fail
   refine (HS.out _).mono ?_
   rintro e W ⟨rfl, rfl⟩
   go_wp2_with fail
   go_ret
   exact ⟨rfl, rfl⟩
 · have q1 : ((t : Int) == 41) = false := by simp; omega
   go_wp2_with fail
   refine (HS.out _).mono ?_
   rintro e W ⟨rfl, rfl⟩
   have hm : (decide (t ≠ 0) && decide (t ≠ 41) && (decide (t < 128) || decide (255 < t))) = mayT t := by simp [mayT, h1]
   rw [hm]
   cases hmt : mayT t
   all_goals
     go_wp2_with fail
     go_ret
     exact ⟨ret_bool (by rw [hmt]), rfl⟩
def fitB (n : Nat) (c : Int) : Bool := if c = -1 then decide (0 < n) else if c = -2 then true else decide ((n : Int) = c)
set_option maxHeartbeats 1000000 in
theorem pfits_any (n : Nat) (c : Int) (w : World) : Calls Tryz.prog 118 #[.int .i64 n, .int .i64 c] w fun e w' => e = .returned (.bool (fitB n c)) /\ w' = w := by
 unfold fitB
 by_cases h1 : c = -1
 · subst h1
   rw [if_pos rfl]
   go_enter Tryz.func118, Tryz.ntmps118
   go_wp2_with fail
   go_ret
   exact ⟨ret_bool (by simp), rfl⟩
 rw [if_neg h1]
 have q1 : (c == -1) = false := by simp [h1]
 by_cases h2 : c = -2
 · subst h2
   rw [if_pos rfl]
   go_enter Tryz.func118, Tryz.ntmps118
   go_wp2_with fail
   go_ret
   exact ⟨rfl, rfl⟩
 rw [if_neg h2]
 have q2 : (c == -2) = false := by simp [h2]
 go_enter Tryz.func118, Tryz.ntmps118
 go_wp2_with fail
 go_ret
 exact ⟨ret_bool (by by_cases h : (n : Int) = c <;> simp [h]), rfl⟩
def FBox (w : World) (b : Nat) (f : Fs) : Prop :=
 w.cell? ⟨b, 0, none⟩ = some (.int .i64 f.nn) /\ w.cell? ⟨b, 1, none⟩ = some (.int .i64 f.nf) /\ w.cell? ⟨b, 2, none⟩ = some (.int .i64 f.nu) /\ w.cell? ⟨b, 3, none⟩ = some (.int .i64 f.wd) /\ w.cell? ⟨b, 4, none⟩ = some (.int .i64 f.nt) /\ w.cell? ⟨b, 5, none⟩ = some (.int .i64 f.tg) /\ w.cell? ⟨b, 6, none⟩ = some (.int .i64 f.tl) /\ w.cell? ⟨b, 7, none⟩ = some (.int .i64 f.nr) /\ b < w.heap.size
theorem FBox.new (w : World) (f : Fs) : FBox (w.alloc (.cells #[.int .i64 f.nn, .int .i64 f.nf, .int .i64 f.nu, .int .i64 f.wd, .int .i64 f.nt, .int .i64 f.tg, .int .i64 f.tl, .int .i64 f.nr] 150)) w.heap.size f := by
 refine ⟨?_, ?_, ?_, ?_, ?_, ?_, ?_, ?_, by simp⟩ <;> (unfold World.cell?; rw [heap_alloc_new]; rfl)
theorem FBox.below {w w' : World} {b : Nat} {f : Fs} (h : FBox w b f) (hb : Below w.heap.size w w') : FBox w' b f := by
 obtain ⟨h0, h1, h2, h3, h4, h5, h6, h7, hl⟩ := h
 exact ⟨(hb.cell (p := ⟨b, 0, none⟩) hl).trans h0, (hb.cell (p := ⟨b, 1, none⟩) hl).trans h1, (hb.cell (p := ⟨b, 2, none⟩) hl).trans h2, (hb.cell (p := ⟨b, 3, none⟩) hl).trans h3, (hb.cell (p := ⟨b, 4, none⟩) hl).trans h4, (hb.cell (p := ⟨b, 5, none⟩) hl).trans h5, (hb.cell (p := ⟨b, 6, none⟩) hl).trans h6, (hb.cell (p := ⟨b, 7, none⟩) hl).trans h7, Nat.lt_of_lt_of_le hl hb.size⟩
def PtSt (w W : World) (b : Nat) (f : Fs) (x : DA) (d : Dat) : Prop := FBox W b f /\ DBox W (b + 1) x /\ DRd W x d /\ Below w.heap.size w W
theorem PtSt.go {w W W' : World} {b : Nat} {f : Fs} {x : DA} {d : Dat} (h : PtSt w W b f x d) (hb : Below W.heap.size W W') : PtSt w W' b f x d :=
 ⟨h.1.below hb, h.2.1.below hb, h.2.2.1.below hb, h.2.2.2.trans (hb.mono h.2.2.2.size)⟩
theorem PtSt.new (w : World) (f : Fs) (x : DA) (d : Dat) (h : DRd w x d) : PtSt w ((w.alloc (.cells #[.int .i64 f.nn, .int .i64 f.nf, .int .i64 f.nu, .int .i64 f.wd, .int .i64 f.nt, .int .i64 f.tg, .int .i64 f.tl, .int .i64 f.nr] 150)).alloc (.cells #[.slice x.p1.a x.p1.n x.p1.c, .slice x.p2.a x.p2.n x.p2.c, .slice x.p3.a x.p3.n x.p3.c, .slice x.p4.a x.p4.n x.p4.c] 60)) w.heap.size f x d := by
 have hb1 : Below w.heap.size w (w.alloc (.cells #[.int .i64 f.nn, .int .i64 f.nf, .int .i64 f.nu, .int .i64 f.wd, .int .i64 f.nt, .int .i64 f.tg, .int .i64 f.tl, .int .i64 f.nr] 150)) := (Below.refl _ _).alloc (Nat.le_refl _) _
 have HX := FBox.new w f
 have hx1 := h.below hb1
 obtain ⟨W0, hW0⟩ : ∃ W, W = w.alloc (.cells #[.int .i64 f.nn, .int .i64 f.nf, .int .i64 f.nu, .int .i64 f.wd, .int .i64 f.nt, .int .i64 f.tg, .int .i64 f.tl, .int .i64 f.nr] 150) := ⟨_, rfl⟩
 have hs0 : W0.heap.size = w.heap.size + 1 := by rw [hW0]; simp
 rw [<- hW0] at hb1 HX hx1 ⊢
 have hb2 : Below W0.heap.size W0 (W0.alloc (.cells #[.slice x.p1.a x.p1.n x.p1.c, .slice x.p2.a x.p2.n x.p2.c, .slice x.p3.a x.p3.n x.p3.c, .slice x.p4.a x.p4.n x.p4.c] 60)) := (Below.refl _ _).alloc (Nat.le_refl _) _
 have HY := DBox.new W0 x
 rw [hs0] at HY
 exact ⟨HX.below hb2, HY, hx1.below hb2, hb1.trans (hb2.mono hb1.size)⟩
def cntB (f : Fs) (d : Dat) : Bool := fitB d.ns.length f.nn && fitB d.us.length f.nu && fitB d.ts.length f.nt && fitB d.raw.length f.nr
set_option maxHeartbeats 2000000 in
theorem counted_any (f : Fs) (x : DA) (d : Dat) (w : World) (h : DRd w x d) :
   Calls Tryz.prog 98 #[.agg #[.int .i64 f.nn, .int .i64 f.nf, .int .i64 f.nu, .int .i64 f.wd, .int .i64 f.nt, .int .i64 f.tg, .int .i64 f.tl, .int .i64 f.nr], .agg #[.slice x.p1.a x.p1.n x.p1.c, .slice x.p2.a x.p2.n x.p2.c, .slice x.p3.a x.p3.n x.p3.c, .slice x.p4.a x.p4.n x.p4.c]] w fun e w' => e = .returned (.bool (cntB f d)) /\ Hid (Below w.heap.size w w') := by
 have H : Hid (PtSt w ((w.alloc (.cells #[.int .i64 f.nn, .int .i64 f.nf, .int .i64 f.nu, .int .i64 f.wd, .int .i64 f.nt, .int .i64 f.tg, .int .i64 f.tl, .int .i64 f.nr] 150)).alloc (.cells #[.slice x.p1.a x.p1.n x.p1.c, .slice x.p2.a x.p2.n x.p2.c, .slice x.p3.a x.p3.n x.p3.c, .slice x.p4.a x.p4.n x.p4.c] 60)) w.heap.size f x d) := PtSt.new w f x d h
 have l1 := h.h1.len
 have l2 := h.h2.len
 have l3 := h.h3.len
 have l4 := h.h4.len
 clear h
 unfold cntB
 rw [l1, l2, l3, l4]
 clear l1 l2 l3 l4
 obtain ⟨nn, nf, nu, wd, nt, tg, tl, nr⟩ := f
 obtain ⟨⟨a1, n1, k1⟩, ⟨a2, n2, k2⟩, ⟨a3, n3, k3⟩, ⟨a4, n4, k4⟩⟩ := x
 simp only at H ⊢
 go_enter Tryz.func98, Tryz.ntmps98
 go_upto_region 1 with fail
 generalize ((w.alloc (.cells #[.int .i64 nn, .int .i64 nf, .int .i64 nu, .int .i64 wd, .int .i64 nt, .int .i64 tg, .int .i64 tl, .int .i64 nr] 150)).alloc (.cells #[.slice a1 n1 k1, .slice a2 n2 k2, .slice a3 n3 k3, .slice a4 n4 k4] 60)) = W1 at *
 have s0 := H.out.1.1
 have s2 := H.out.1.2.2.1
 have s4 := H.out.1.2.2.2.2.1
 have s7 := H.out.1.2.2.2.2.2.2.2.1
 have c0 := H.out.2.1.1
 have c1 := H.out.2.1.2.1
 have c2 := H.out.2.1.2.2.1
 have c3 := H.out.2.1.2.2.2.1
 simp only at s0 s2 s4 s7 c0 c1 c2 c3
 go_wp2_with fail
 refine (pfits_any n1 nn _).mono ?_
 rintro e W ⟨rfl, rfl⟩
 cases hfn1 : fitB n1 nn with
 | false =>
   go_wp2_with fail
   go_ret
   exact ⟨ret_bool (by simp [*]), H.out.2.2.2⟩
 | true =>
   go_wp2_with fail
   refine (pfits_any n2 nu _).mono ?_
   rintro e W ⟨rfl, rfl⟩
   cases hfn2 : fitB n2 nu with
   | false =>
     go_wp2_with fail
     go_ret
     exact ⟨ret_bool (by simp [*]), H.out.2.2.2⟩
   | true =>
     go_wp2_with fail
     refine (pfits_any n3 nt _).mono ?_
     rintro e W ⟨rfl, rfl⟩
     cases hfn3 : fitB n3 nt with
     | false =>
       go_wp2_with fail
       go_ret
       exact ⟨ret_bool (by simp [*]), H.out.2.2.2⟩
     | true =>
       go_wp2_with fail
       refine (pfits_any n4 nr _).mono ?_
       rintro e W ⟨rfl, rfl⟩
       go_wp2_with fail
       go_ret
       exact ⟨ret_bool (by simp [*]), H.out.2.2.2⟩
end Go.Proofs.YtkjnbgekaifdfaaGreat
namespace Go.Proofs.YtkjnbgekaifdfaaGreat
open Go.ChangeShapes Go.WideShapes Go.ChangeAt Go.RowKit
theorem call155 (s : ByteArray) (c : Int) (w : World) : (callFunc 155 #[.string s, .int .u8 c]).run Tryz.prog w = .ok (.value (.int .i64 (Lib.indexByte s.data.toList c.toNat.toUInt8))) w := by
 rw [run_callFunc_extern Tryz.func155 (by kernel_rfl) (by kernel_rfl) (by kernel_rfl) (by kernel_rfl) _ w]
 show ((Extern.BytealgIndexByte.indexByte #[.string s, .int .u8 c]).run Tryz.prog w).andThen _ = _
 rw [Lib.run_indexByteString]
 rfl
set_option maxHeartbeats 400000 in
theorem sidx_any (s : ByteArray) (c : Int) (w : World) : Calls Tryz.prog 145 #[.string s, .int .u8 c] w fun e w' => e = .returned (.int .i64 (Lib.indexByte s.data.toList c.toNat.toUInt8)) /\ w' = w := by
 have h := call155 s c
 go_enter Tryz.func145, Tryz.ntmps145
 go_wp2
 go_ret
 exact ⟨rfl, rfl⟩
set_option maxHeartbeats 400000 in
theorem idx_any (s : ByteArray) (c : Int) (w : World) : Calls Tryz.prog 132 #[.string s, .int .u8 c] w fun e w' => e = .returned (.int .i64 (Lib.indexByte s.data.toList c.toNat.toUInt8)) /\ w' = w := by
 go_enter Tryz.func132, Tryz.ntmps132
 go_wp2_with fail
 refine (sidx_any s c _).mono ?_
 rintro e w1 ⟨rfl, rfl⟩
 go_wp2
 go_ret
 exact ⟨rfl, rfl⟩
def tagged : List UInt8 := [97, 98, 99, 100, 101, 102, 103, 104, 105, 106, 107, 108, 109, 110, 111, 112, 113, 114, 115, 116, 117, 118, 119, 120, 121, 122, 65, 66, 67, 68, 69, 70, 71, 72, 73, 74, 75, 76, 77, 78, 79, 80, 81, 82, 83, 84, 85, 86, 87, 88, 89, 90, 48, 49, 50, 51, 52, 53, 54, 55, 56, 57]
theorem tagged_idx : ∀ n : Fin 256, decide (Lib.indexByte tagged n.val.toUInt8 < 0) = !alnum (n.val : Int) := by decide +kernel
theorem idx_tag (c : Int) (h0 : 0 <= c) (h1 : c <= 255) (w : World) : Calls Tryz.prog 132 #[.string { data := #[97, 98, 99, 100, 101, 102, 103, 104, 105, 106, 107, 108, 109, 110, 111, 112, 113, 114, 115, 116, 117, 118, 119, 120, 121, 122, 65, 66, 67, 68, 69, 70, 71, 72, 73, 74, 75, 76, 77, 78, 79, 80, 81, 82, 83, 84, 85, 86, 87, 88, 89, 90, 48, 49, 50, 51, 52, 53, 54, 55, 56, 57] }, .int .u8 c] w fun e w' => ∃ k, e = .returned (.int .i64 k) /\ Hid (decide (k < 0) = !alnum c) /\ w' = w := by
 refine (idx_any _ c w).mono ?_
 rintro e w1 ⟨rfl, rfl⟩
 refine ⟨_, rfl, ?_, rfl⟩
 have := tagged_idx ⟨c.toNat, by omega⟩
 simp only at this
 rw [Int.toNat_of_nonneg h0] at this
 exact this
set_option maxHeartbeats 2000000 in
theorem istag_any (s : ByteArray) (hs : s.size <= 9223372036854775807) (w : World) : Calls Tryz.prog 119 #[.string s] w fun e w' => e = .returned (.bool (tagB s)) /\ w' = w := by
 by_cases h1 : s.size = 0
 · have HE : Hid (tagB s = false) := by show _ = _; simp [tagB]; omega
   have h1' : ((s.size : Int) == 0) = true := by rw [beq_iff_eq]; omega
   go_enter Tryz.func119, Tryz.ntmps119
   go_wp2_with fail
   go_ret
   exact ⟨by rw [HE.out]; rfl, rfl⟩
 · have h1' : ((s.size : Int) == 0) = false := by rw [beq_eq_false_iff_ne]; omega
   by_cases h2 : 15 < s.size
   · have HE : Hid (tagB s = false) := by show _ = _; simp [tagB]; omega
     have h2' : (15 : Int) < (s.size : Int) := by omega
     go_enter Tryz.func119, Tryz.ntmps119
     go_wp2_with fail
     go_ret
     exact ⟨by rw [HE.out]; rfl, rfl⟩
   · have h2' : ¬ (15 : Int) < (s.size : Int) := by omega
     have HT : Hid (tagB s = (nums s).all alnum) := by show _ = _; simp [tagB]; intro _; omega
     go_enter Tryz.func119, Tryz.ntmps119
     go_wp2_with fail
     go_loopw [14] (fun v wr => wr = w /\ ∃ k : Nat, k <= s.size /\ v = .int .i64 (k : Int) /\ Hid (∀ z ∈ (nums s).take k, alnum z = true)) (fun v _ => s.size - (intOf v).toNat)
     case atStart => exact ⟨rfl, 0, Nat.zero_le _, rfl, by intro y hy; simp at hy⟩
     case round =>
       obtain ⟨hwr, k, hk, rfl, HF⟩ := hrel
       subst hwr
       by_cases hlt : k < s.size
       · have hlt' : (k : Int) < (s.size : Int) := by omega
         have hbd := nums_bd s k
         have hki : k < (nums s).length := by rw [nums_len]; exact hlt
         have hat := nums_at s k hlt
         rw [hat] at hbd
         have HA : Hid (∃ h : k < (nums s).length, (nums s)[k] = (s[k].toNat : Int)) := by
           refine ⟨hki, ?_⟩
           have : (nums s).getD k 0 = (nums s)[k] := by simp [List.getD_eq_getElem?_getD, hki]
           rw [<- this, hat]
         clear hat hki
         obtain ⟨c, hc⟩ : ∃ c : Int, (s[k].toNat : Int) = c := ⟨_, rfl⟩
         rw [hc] at hbd HA
         go_wp2_with fail
         first | simp only [hc] | skip
         refine (idx_tag c hbd.1 hbd.2 _).mono ?_
         rintro e w1 ⟨j, rfl, HJ, rfl⟩
         cases hal : alnum c with
         | true =>
           have HF2 : Hid (∀ z ∈ (nums s).take (k + 1), alnum z = true) := by
             intro z hz
             obtain ⟨hin, hav⟩ := HA.out
             rw [List.take_succ_eq_append_getElem hin] at hz
             simp only [List.mem_append, List.mem_singleton] at hz
             rcases hz with hz | hz
             · exact HF.out z hz
             · subst hz; rw [hav]; exact hal
           have hj : ¬ j < 0 := by have := HJ.out; rw [hal] at this; simpa using this
           clear HF hal HJ
           go_wp2_with fail
           exact ⟨⟨by first | rfl | trivial, k + 1, by omega, by go_num, HF2⟩, by simp [intOf]; omega⟩
         | false =>
           have HE : Hid (tagB s = false) := by
             show _ = _
             rw [HT.out, <- Bool.not_eq_true]
             intro hall
             obtain ⟨hin, hav⟩ := HA.out
             have := List.all_eq_true.1 hall (nums s)[k] (List.getElem_mem hin)
             rw [hav, hal] at this
             cases this
           have hj : j < 0 := by have := HJ.out; rw [hal] at this; simpa using this
           clear HF hal HT HJ
           go_wp2_with fail
           go_ret
           exact ⟨by rw [HE.out]; rfl, rfl⟩
       · have hge : ¬ (k : Int) < (s.size : Int) := by omega
         have HE : Hid (tagB s = true) := by
           have := HF.out
           rw [List.take_of_length_le (by rw [nums_len]; omega)] at this
           show _ = _
           rw [HT.out]
           exact List.all_eq_true.2 this
         clear HF HT
         go_wp2_with fail
         go_ret
         exact ⟨by rw [HE.out]; rfl, rfl⟩
end Go.Proofs.YtkjnbgekaifdfaaGreat
namespace Go.Proofs.YtkjnbgekaifdfaaGreat
open Go.ChangeShapes Go.WideShapes Go.ChangeAt Go.RowKit
def wthB (f : Fs) (d : Dat) : Bool := d.us.all (fun n => decide (n / 2 ^ (8 * f.wd) = 0)) && (d.ts.take f.tg).all tagB && (d.ts.take (d.ts.length - f.tl)).all (fun s => decide (s.size <= 255))
theorem all_cut {α : Type} (l : List α) (p : α -> Bool) (k : Nat) (hk : k < l.length) (h : p l[k] = false) : l.all p = false := by
 rw [<- Bool.not_eq_true]
 intro hall
 have := List.all_eq_true.1 hall l[k] (List.getElem_mem hk)
 rw [h] at this
 cases this
theorem all_next {α : Type} (l : List α) (p : α -> Bool) (k : Nat) (hk : k < l.length) (h : p l[k] = true) (hf : ∀ z ∈ l.take k, p z = true) : ∀ z ∈ l.take (k + 1), p z = true := by
 intro z hz
 rw [List.take_succ_eq_append_getElem hk] at hz
 simp only [List.mem_append, List.mem_singleton] at hz
 rcases hz with hz | hz
 · exact hf z hz
 · subst hz; exact h
set_option maxHeartbeats 4000000 in
theorem within_any (f : Fs) (x : DA) (d : Dat) (w : World) (h : DRd w x d) (hwd : f.wd = 0 ∨ f.wd = 1 ∨ f.wd = 2 ∨ f.wd = 4) (htg : f.tg <= d.ts.length) (htl : f.tl <= d.ts.length) :
   Calls Tryz.prog 99 #[.agg #[.int .i64 f.nn, .int .i64 f.nf, .int .i64 f.nu, .int .i64 f.wd, .int .i64 f.nt, .int .i64 f.tg, .int .i64 f.tl, .int .i64 f.nr], .agg #[.slice x.p1.a x.p1.n x.p1.c, .slice x.p2.a x.p2.n x.p2.c, .slice x.p3.a x.p3.n x.p3.c, .slice x.p4.a x.p4.n x.p4.c]] w fun e w' => e = .returned (.bool (wthB f d)) /\ Hid (Below w.heap.size w w') := by
 have H : Hid (PtSt w ((w.alloc (.cells #[.int .i64 f.nn, .int .i64 f.nf, .int .i64 f.nu, .int .i64 f.wd, .int .i64 f.nt, .int .i64 f.tg, .int .i64 f.tl, .int .i64 f.nr] 150)).alloc (.cells #[.slice x.p1.a x.p1.n x.p1.c, .slice x.p2.a x.p2.n x.p2.c, .slice x.p3.a x.p3.n x.p3.c, .slice x.p4.a x.p4.n x.p4.c] 60)) w.heap.size f x d) := PtSt.new w f x d h
 have l2 := h.h2.len
 have l3 := h.h3.len
 have HC : Hid (x.p2.n <= 9223372036854775807 /\ x.p3.n <= x.p3.c /\ x.p3.c <= 9223372036854775807) := ⟨Nat.le_trans h.h2.cap.1 h.h2.cap.2, h.h3.cap.1, h.h3.cap.2⟩
 clear h
 obtain ⟨nn, nf, nu, wd, nt, tg, tl, nr⟩ := f
 obtain ⟨⟨a1, n1, k1⟩, ⟨a2, n2, k2⟩, ⟨a3, n3, k3⟩, ⟨a4, n4, k4⟩⟩ := x
 simp only at H l2 l3 HC hwd htg htl ⊢
 have hk3 := HC.out.2
 have hn2 := HC.out.1
 have htg' : tg <= n3 := by omega
 have htl' : tl <= n3 := by omega
 have HW : Hid (wthB ⟨nn, nf, nu, wd, nt, tg, tl, nr⟩ d = (d.us.all (fun n => decide (n / 2 ^ (8 * wd) = 0)) && (d.ts.take tg).all tagB && (d.ts.take (n3 - tl)).all (fun s => decide (s.size <= 255)))) := by
   show _ = _
   unfold wthB
   rw [l3]
 have HL : Hid (d.us.length = n2 /\ d.ts.length = n3) := ⟨l2, l3⟩
 obtain ⟨R, hR⟩ : ∃ R, wthB ⟨nn, nf, nu, wd, nt, tg, tl, nr⟩ d = R := ⟨_, rfl⟩
 rw [hR] at HW ⊢
 clear hR l2 l3 htg htl HC
 go_enter Tryz.func99, Tryz.ntmps99
 go_upto_region 1 with fail
 generalize ((w.alloc (.cells #[.int .i64 nn, .int .i64 nf, .int .i64 nu, .int .i64 wd, .int .i64 nt, .int .i64 tg, .int .i64 tl, .int .i64 nr] 150)).alloc (.cells #[.slice a1 n1 k1, .slice a2 n2 k2, .slice a3 n3 k3, .slice a4 n4 k4] 60)) = W1 at *
 obtain ⟨b, hb⟩ : ∃ b, b = w.heap.size := ⟨_, rfl⟩
 rw [<- hb] at H ⊢
 have Hb : Hid (b = w.heap.size) := hb
 clear hb
 have s3 := H.out.1.2.2.2.1
 have c1 := H.out.2.1.2.1
 simp only at s3 c1
 go_wp2_with fail
 go_loopw [14] (fun v wr => wr = W1 /\ ∃ k : Nat, k <= n2 /\ v = .int .i64 (k : Int) /\ Hid (∀ z ∈ d.us.take k, decide (z / 2 ^ (8 * wd) = 0) = true)) (fun v _ => n2 - (intOf v).toNat)
 case atStart => exact ⟨rfl, 0, Nat.zero_le _, rfl, by intro y hy; simp at hy⟩
 case round =>
   obtain ⟨hwr, k, hk, rfl, HF⟩ := hrel
   subst hwr
   by_cases hlt : k < n2
   · have hlt' : (k : Int) < (n2 : Int) := by omega
     have hki : k < d.us.length := by rw [HL.out.1]; exact hlt
     obtain ⟨B2, o2, ha2, hl2, hz2⟩ := H.out.2.2.1.h2.at k hki
     have hub := H.out.2.2.1.h2.bd _ (List.getElem_mem hki)
     simp only at ha2
     subst ha2
     have HN : Hid (decide (d.us[k] / 2 ^ (8 * wd) = 0) = true -> ∀ z ∈ d.us.take (k + 1), decide (z / 2 ^ (8 * wd) = 0) = true) := fun hh => all_next d.us _ k hki hh HF.out
     have HX : Hid (decide (d.us[k] / 2 ^ (8 * wd) = 0) = false -> R = false) := by
       intro hh
       have := HW.out
       rw [all_cut d.us (fun n => decide (n / 2 ^ (8 * wd) = 0)) k hki hh] at this
       simpa using this
     clear HF
     generalize d.us[k] = u at *
     have hq : ∀ m : Nat, ((u : Int) / ((2 ^ m : Nat) : Int)) = ((u / 2 ^ m : Nat) : Int) := by intro m; simp
     by_cases hu : u / 2 ^ (8 * wd) = 0
     · have HF2 := HN.out (decide_eq_true hu)
       have HF3 : Hid (∀ z ∈ d.us.take (k + 1), decide (z / 2 ^ (8 * wd) = 0) = true) := HF2
       clear HF2 HN HX
       rcases hwd with e | e | e | e
       all_goals
         subst e
         simp at hu
         go_wp2_with fail
         exact ⟨⟨by first | rfl | trivial, k + 1, by omega, by go_num, HF3⟩, by simp [intOf]; omega⟩
     · have HE : Hid (R = false) := HX.out (decide_eq_false hu)
       clear HN HX HW
       rcases hwd with e | e | e | e
       all_goals
         subst e
         simp at hu
         first
         | omega
         | (go_wp2_with fail
            go_ret
            exact ⟨by rw [HE.out]; rfl, H.out.2.2.2⟩)
   · have hge : ¬ (k : Int) < (n2 : Int) := by omega
     have HU : Hid (d.us.all (fun n => decide (n / 2 ^ (8 * wd) = 0)) = true) := by
       have := HF.out
       rw [List.take_of_length_le (by rw [HL.out.1]; omega)] at this
       exact List.all_eq_true.2 this
     clear HF
     have s5 := H.out.1.2.2.2.2.2.1
     have c2 := H.out.2.1.2.2.1
     simp only at s5 c2
     clear s3 c1 hwd
     go_wp2_with fail
     obtain ⟨wz, hz⟩ : ∃ z, z = wr := ⟨_, rfl⟩
     subst hz
     go_loopw [31] (fun v wr => wr = wz /\ ∃ k : Nat, k <= tg /\ v = .int .i64 (k : Int) /\ Hid (∀ z ∈ (d.ts.take tg).take k, tagB z = true)) (fun v _ => tg - (intOf v).toNat)
     case atStart => exact ⟨rfl, 0, Nat.zero_le _, rfl, by intro y hy; simp at hy⟩
     case round =>
       obtain ⟨hwr, j, hj, rfl, HF⟩ := hrel
       subst hwr
       by_cases hjt : j < tg
       · have hjt' : (j : Int) < (tg : Int) := by omega
         have hji : j < d.ts.length := by rw [HL.out.2]; omega
         have hjj : j < (d.ts.take tg).length := by rw [List.length_take]; omega
         obtain ⟨B3, o3, ha3, hl3, hy3⟩ := H.out.2.2.1.h3.rd.at j hji
         have hsz := H.out.2.2.1.h3.z63 _ (List.getElem_mem hji)
         simp only at ha3
         subst ha3
         have hjs : (d.ts.take tg)[j] = d.ts[j] := by simp
         have HN : Hid (tagB d.ts[j] = true -> ∀ z ∈ (d.ts.take tg).take (j + 1), tagB z = true) := fun hh => all_next (d.ts.take tg) tagB j hjj (by rw [hjs]; exact hh) HF.out
         have HX : Hid (tagB d.ts[j] = false -> R = false) := by
           intro hh
           have := HW.out
           rw [all_cut (d.ts.take tg) tagB j hjj (by rw [hjs]; exact hh)] at this
           simpa using this
         clear HF hjs hjj
         generalize d.ts[j] = s at *
         go_wp2_with fail
         refine (istag_any s hsz _).mono ?_
         rintro e Wx ⟨rfl, rfl⟩
         cases htb : tagB s with
         | true =>
           have HF2 : Hid (∀ z ∈ (d.ts.take tg).take (j + 1), tagB z = true) := HN.out htb
           clear HN HX htb
           go_wp2_with fail
           exact ⟨⟨by first | rfl | trivial, j + 1, by omega, by go_num, HF2⟩, by simp [intOf]; omega⟩
         | false =>
           have HE : Hid (R = false) := HX.out htb
           clear HN HX htb
           go_wp2_with fail
           go_ret
           exact ⟨by rw [HE.out]; rfl, H.out.2.2.2⟩
       · have hge2 : ¬ (j : Int) < (tg : Int) := by omega
         have HT : Hid ((d.ts.take tg).all tagB = true) := by
           have := HF.out
           rw [List.take_of_length_le (by rw [List.length_take]; omega)] at this
           exact List.all_eq_true.2 this
         clear HF
         have s6 := H.out.1.2.2.2.2.2.2.1
         simp only at s6
         obtain ⟨m, hm⟩ : ∃ m : Nat, m = n3 - tl := ⟨_, rfl⟩
         have hmi : (n3 : Int) - (tl : Int) = (m : Int) := by omega
         have hmw : IntKind.i64.wrap ((n3 : Int) - (tl : Int)) = (m : Int) := by rw [hmi, IntKind.wrap_i64]; omega
         have HM : Hid (m = n3 - tl) := hm
         have hmn : m <= n3 := by omega
         clear hm hmi s5
         go_wp2_with fail
         obtain ⟨wy, hz⟩ : ∃ z, z = wr := ⟨_, rfl⟩
         subst hz
         go_loopw [49] (fun v wr => wr = wy /\ ∃ k : Nat, k <= m /\ v = .int .i64 (k : Int) /\ Hid (∀ z ∈ (d.ts.take m).take k, decide (z.size <= 255) = true)) (fun v _ => m - (intOf v).toNat)
         case atStart => exact ⟨rfl, 0, Nat.zero_le _, rfl, by intro y hy; simp at hy⟩
         case round =>
           obtain ⟨hwr, i, hi, rfl, HF⟩ := hrel
           subst hwr
           by_cases hit : i < m
           · have hit' : (i : Int) < (m : Int) := by omega
             have hii : i < d.ts.length := by rw [HL.out.2]; omega
             have hij : i < (d.ts.take m).length := by rw [List.length_take]; omega
             obtain ⟨B3, o3, ha3, hl3, hy3⟩ := H.out.2.2.1.h3.rd.at i hii
             simp only at ha3
             subst ha3
             have his : (d.ts.take m)[i] = d.ts[i] := by simp
             by_cases hz : (255 : Int) < (d.ts[i].size : Int)
             · have HE : Hid (R = false) := by
                 have := HW.out
                 show R = false
                 rw [<- HM.out, all_cut (d.ts.take m) (fun s => decide (s.size <= 255)) i hij (by rw [his]; exact decide_eq_false (by omega))] at this
                 simpa using this
               clear HF HW
               generalize d.ts[i] = s at *
               go_wp2_with fail
               go_ret
               exact ⟨by rw [HE.out]; rfl, H.out.2.2.2⟩
             · have HF2 : Hid (∀ z ∈ (d.ts.take m).take (i + 1), decide (z.size <= 255) = true) := all_next (d.ts.take m) (fun z => decide (z.size <= 255)) i hij (by rw [his]; exact decide_eq_true (by omega)) HF.out
               clear HF his
               generalize d.ts[i] = s at *
               go_wp2_with fail
               exact ⟨⟨by first | rfl | trivial, i + 1, by omega, by go_num, HF2⟩, by simp [intOf]; omega⟩
           · have hge3 : ¬ (i : Int) < (m : Int) := by omega
             have HE : Hid (R = true) := by
               have h1 := HF.out
               rw [List.take_of_length_le (by rw [List.length_take]; omega)] at h1
               have h2 := HW.out
               rw [HU.out, HT.out, <- HM.out, List.all_eq_true.2 h1] at h2
               show R = true
               simpa using h2
             clear HF HW
             go_wp2_with fail
             go_ret
             exact ⟨by rw [HE.out]; rfl, H.out.2.2.2⟩
end Go.Proofs.YtkjnbgekaifdfaaGreat
namespace Go.Proofs.YtkjnbgekaifdfaaGreat
open Go.ChangeShapes Go.WideShapes Go.ChangeAt Go.RowKit
set_option maxHeartbeats 1000000 in
theorem psize_eq (a : Option Addr) (len cap : Nat) (ss : List ByteArray) (w : World) (hr : RdT w a ss) (hl : ss.length = len) (hm : nsz ss <= 1000000000000000) :
   Calls Tryz.prog 49 #[.slice a len cap] w fun e w' => e = .returned (.int .i64 (nsz ss)) /\ w' = w := by
 have HR : Hid (RdT w a ss) := hr
 have HL : Hid (ss.length = len) := hl
 have hln : len <= 9223372036854775807 := by have := nsz_len ss; omega
 obtain ⟨T, hT⟩ : ∃ T, nsz ss = T := ⟨_, rfl⟩
 have HT : Hid (nsz ss = T) := hT
 rw [hT] at hm ⊢
 clear hr hl hT
 go_enter Tryz.func49, Tryz.ntmps49
 go_wp2_with fail
 go_loop [3, 8] (fun n x => ∃ k m : Nat, k <= len /\ m <= T /\ x = .int .i64 k /\ n = .int .i64 m /\ Hid (nsz (ss.take k) = m)) (fun _ x => len - (intOf x).toNat)
 case atStart => exact ⟨0, 1, Nat.zero_le _, by rw [<- HT.out]; exact nsz_le ss 0, rfl, rfl, rfl⟩
 case round =>
   obtain ⟨k, m, hk, hmT, rfl, rfl, HM⟩ := hrel
   by_cases hlt : k < len
   · have hlt' : (k : Int) < (len : Int) := by omega
     have hks : k < ss.length := by rw [HL.out]; exact hlt
     obtain ⟨b, o, rfl, hb, hc⟩ := HR.out.at k hks
     have hn : nsz (ss.take (k + 1)) = m + ss[k].size + 1 := by rw [take_snocT ss k hks, nsz_snoc, HM.out]
     have hle := nsz_le ss (k + 1)
     rw [hn, HT.out] at hle
     have HN : Hid (nsz (ss.take (k + 1)) = m + ss[k].size + 1) := hn
     clear hn
     generalize ss[k] = s at *
     go_wp2
     go_round
     case rel => exact ⟨k + 1, m + s.size + 1, by omega, hle, by go_num, by go_num, HN⟩
     case measure => simp [intOf]; omega
   · have hge : (len : Int) <= (k : Int) := by omega
     have e : m = T := by rw [<- HM.out, <- HT.out, List.take_of_length_le (by rw [HL.out]; omega)]
     subst e
     go_wp2
     go_ret
     exact ⟨rfl, rfl⟩
set_option maxHeartbeats 1000000 in
theorem pcheck_eq (a : Option Addr) (len cap : Nat) (ss : List ByteArray) (w : World) (hr : RdT w a ss) (hl : ss.length = len) (hm : nsz ss <= 1000000000000000) (hlen : len <= 9223372036854775807) (hz : ∀ s ∈ ss, s.size <= 9223372036854775807) :
   Calls Tryz.prog 42 #[.slice a len cap] w fun e w' => e = .returned (.int .i64 (nck ss)) /\ w' = w := by
 have HR : Hid (RdT w a ss /\ ∀ s ∈ ss, s.size <= 9223372036854775807) := ⟨hr, hz⟩
 have HL : Hid (ss.length = len) := hl
 have HS : Hid (∀ W, RdT W a ss -> Calls Tryz.prog 49 #[.slice a len cap] W fun e w' => e = .returned (.int .i64 (nsz ss)) /\ w' = W) := fun W hW => psize_eq a len cap ss W hW hl hm
 obtain ⟨T, hT⟩ : ∃ T, nsz ss = T := ⟨_, rfl⟩
 have HT : Hid (nsz ss = T) := hT
 rw [hT] at hm HS
 clear hr hl hT hz
 go_enter Tryz.func42, Tryz.ntmps42
 go_wp2_with fail
 go_loopw [8] (fun x wr => ∃ k : Nat, k <= len /\ x = .int .i64 k /\ wr = w /\ Hid (∀ i (h : i < ss.length), i < k -> chk ss[i].size = 0)) (fun x _ => len - (intOf x).toNat)
 case atStart => exact ⟨0, Nat.zero_le _, rfl, rfl, fun i _ h => absurd h (by omega)⟩
 case round =>
   obtain ⟨k, hk, rfl, rfl, HK⟩ := hrel
   by_cases hlt : k < len
   · have hlt' : (k : Int) < (len : Int) := by omega
     have hks : k < ss.length := by rw [HL.out]; exact hlt
     obtain ⟨b, o, rfl, hb, hc⟩ := HR.out.1.at k hks
     have HC : Hid (∀ W, Calls Tryz.prog 71 #[.string ss[k]] W fun e w' => e = .returned (.int .i64 (chk ss[k].size)) /\ w' = W) := fun W => chk_any ss[k] W (HR.out.2 _ (List.getElem_mem hks))
     rcases chk_cases ss[k].size with hk0 | hk4
     · have HN : Hid (∀ i (h : i < ss.length), i < k + 1 -> chk ss[i].size = 0) := by
         intro i h hi
         by_cases e : i = k
         · subst e; exact hk0
         · exact HK.out i h (by omega)
       rw [hk0] at HC
       clear hk0 HK
       generalize ss[k] = s at *
       go_wp2_with fail
       refine (HC.out _).mono ?_
       rintro e w1 ⟨rfl, rfl⟩
       go_wp2
       exact ⟨⟨k + 1, by omega, by go_num, trivial, HN⟩, by simp [intOf]; omega⟩
     · have HE : Hid (nck ss = 4) := by
         show nck ss = 4
         unfold nck
         rw [if_neg (fun h => by have := h _ (List.getElem_mem hks); rw [hk4] at this; cases this)]
       rw [hk4] at HC
       clear hk4 HK
       generalize ss[k] = s at *
       go_wp2_with fail
       refine (HC.out _).mono ?_
       rintro e w1 ⟨rfl, rfl⟩
       go_wp2
       go_ret
       exact ⟨by rw [HE.out]; rfl, rfl⟩
   · have hge : (len : Int) <= (k : Int) := by omega
     have HO : Hid (labsOk ss) := by
       intro s hs
       obtain ⟨i, hi, rfl⟩ := List.getElem_of_mem hs
       exact HK.out i hi (by have := HL.out; omega)
     by_cases hb : 255 < T
     · have HE : Hid (nck ss = 5) := by show nck ss = 5; unfold nck; rw [if_pos HO.out, HT.out, if_pos hb]
       have hb' : (255 : Int) < (T : Int) := by omega
       clear HK HO
       go_wp2_with fail
       refine (HS.out _ HR.out.1).mono ?_
       rintro e w1 ⟨rfl, rfl⟩
       go_wp2
       go_ret
       exact ⟨by rw [HE.out]; rfl, rfl⟩
     · have HE : Hid (nck ss = 0) := by show nck ss = 0; unfold nck; rw [if_pos HO.out, HT.out, if_neg hb]
       have hb' : ¬ (255 : Int) < (T : Int) := by omega
       clear HK HO
       go_wp2_with fail
       refine (HS.out _ HR.out.1).mono ?_
       rintro e w1 ⟨rfl, rfl⟩
       go_wp2
       go_ret
       exact ⟨by rw [HE.out]; rfl, rfl⟩
theorem pm_check {a : Option Addr} {n : Nat} {ss : List ByteArray} {w : World} (c : Nat) (h : Nm w a n ss) : Calls Tryz.prog 42 #[.slice a n c] w fun e w' => e = .returned (.int .i64 (nck ss)) /\ w' = w :=
 pcheck_eq a n c ss w h.rd h.len (by have := h.sz; omega) (by have := h.n63; omega) (fun s hs => by have := h.mem s hs; omega)
end Go.Proofs.YtkjnbgekaifdfaaGreat
namespace Go.Proofs.YtkjnbgekaifdfaaGreat
open Go.ChangeShapes Go.WideShapes Go.ChangeAt Go.RowKit
theorem sum_snoc' (l : List Nat) (n : Nat) : (l ++ [n]).sum = l.sum + n := by simp
theorem sum_take' (l : List Nat) (k : Nat) : (l.take k).sum <= l.sum := by
 induction l generalizing k with
 | nil => simp
 | cons x l ih =>
   cases k with
   | zero => simp
   | succ k => simp; exact ih k
def nsum (d : Dat) : Nat := (d.ns.map nsz).sum
def tz (s : ByteArray) : Nat := 1 + s.size
def tsum (d : Dat) : Nat := (d.ts.map tz).sum
def pszI (f : Fs) (d : Dat) : Int := ((f.wd * d.us.length : Nat) : Int) + (d.raw.length : Int) - (f.tl : Int) + (nsum d : Int) + (tsum d : Int)
set_option maxHeartbeats 4000000 in
theorem psize5_any (f : Fs) (x : DA) (d : Dat) (w : World) (h : DRd w x d) (htl : f.tl <= 1) (hB : f.wd * d.us.length + d.raw.length + nsum d + tsum d <= 1000000000000000) :
   Calls Tryz.prog 100 #[.agg #[.int .i64 f.nn, .int .i64 f.nf, .int .i64 f.nu, .int .i64 f.wd, .int .i64 f.nt, .int .i64 f.tg, .int .i64 f.tl, .int .i64 f.nr], .agg #[.slice x.p1.a x.p1.n x.p1.c, .slice x.p2.a x.p2.n x.p2.c, .slice x.p3.a x.p3.n x.p3.c, .slice x.p4.a x.p4.n x.p4.c]] w fun e w' => e = .returned (.int .i64 (pszI f d)) /\ Hid (Below w.heap.size w w') := by
 have H : Hid (PtSt w ((w.alloc (.cells #[.int .i64 f.nn, .int .i64 f.nf, .int .i64 f.nu, .int .i64 f.wd, .int .i64 f.nt, .int .i64 f.tg, .int .i64 f.tl, .int .i64 f.nr] 150)).alloc (.cells #[.slice x.p1.a x.p1.n x.p1.c, .slice x.p2.a x.p2.n x.p2.c, .slice x.p3.a x.p3.n x.p3.c, .slice x.p4.a x.p4.n x.p4.c] 60)) w.heap.size f x d) := PtSt.new w f x d h
 have l1 := h.h1.len
 have l2 := h.h2.len
 have l3 := h.h3.len
 have l4 := h.h4.len
 have hc1 : x.p1.n <= 9223372036854775807 := Nat.le_trans h.h1.cap.1 h.h1.cap.2
 have hc3 : x.p3.n <= 9223372036854775807 := Nat.le_trans h.h3.cap.1 h.h3.cap.2
 clear h
 obtain ⟨nn, nf, nu, wd, nt, tg, tl, nr⟩ := f
 obtain ⟨⟨a1, n1, k1⟩, ⟨a2, n2, k2⟩, ⟨a3, n3, k3⟩, ⟨a4, n4, k4⟩⟩ := x
 simp only at H l1 l2 l3 l4 hc1 hc3 htl hB ⊢
 obtain ⟨Z, hZ⟩ : ∃ Z, pszI ⟨nn, nf, nu, wd, nt, tg, tl, nr⟩ d = Z := ⟨_, rfl⟩
 rw [hZ]
 obtain ⟨P, hP⟩ : ∃ P, wd * n2 = P := ⟨_, rfl⟩
 have HZ : Hid (Z = (P : Int) + (n4 : Int) - (tl : Int) + (nsum d : Int) + (tsum d : Int)) := by
   show Z = _
   rw [<- hZ]
   unfold pszI
   rw [l4, l2, hP]
 have hB' : P + n4 + nsum d + tsum d <= 1000000000000000 := by rw [<- hP, <- l2, <- l4]; exact hB
 have HL : Hid (d.ns.length = n1 /\ d.ts.length = n3) := ⟨l1, l3⟩
 have hPi : (wd : Int) * (n2 : Int) = (P : Int) := by rw [<- hP]; simp
 clear hZ l1 l2 l3 l4 hP hB
 have w1 : IntKind.i64.wrap ((wd : Int) * (n2 : Int)) = (P : Int) := by rw [hPi, IntKind.wrap_i64]; omega
 have w2 : IntKind.i64.wrap ((P : Int) + (n4 : Int)) = (P : Int) + (n4 : Int) := by rw [IntKind.wrap_i64]; omega
 have w2' : IntKind.i64.wrap ((P : Int) + (n4 : Int) - (tl : Int)) = (P : Int) + (n4 : Int) - (tl : Int) := by rw [IntKind.wrap_i64]; omega
 clear hPi
 go_enter Tryz.func100, Tryz.ntmps100
 go_upto_region 1 with fail
 generalize ((w.alloc (.cells #[.int .i64 nn, .int .i64 nf, .int .i64 nu, .int .i64 wd, .int .i64 nt, .int .i64 tg, .int .i64 tl, .int .i64 nr] 150)).alloc (.cells #[.slice a1 n1 k1, .slice a2 n2 k2, .slice a3 n3 k3, .slice a4 n4 k4] 60)) = W1 at *
 obtain ⟨b, hb⟩ : ∃ b, b = w.heap.size := ⟨_, rfl⟩
 rw [<- hb] at H ⊢
 have Hb : Hid (b = w.heap.size) := hb
 clear hb
 have s3 := H.out.1.2.2.2.1
 have s6 := H.out.1.2.2.2.2.2.2.1
 have c0 := H.out.2.1.1
 have c1 := H.out.2.1.2.1
 have c3 := H.out.2.1.2.2.2.1
 simp only at s3 s6 c0 c1 c3
 go_wp2_with fail
 clear s3 s6 c1 c3 w1 w2 w2'
 go_loopw [5, 26] (fun v i wr => wr = W1 /\ ∃ (k : Nat) (A : Int), k <= n1 /\ i = .int .i64 (k : Int) /\ v = .int .i64 A /\ (-1 <= A /\ A <= 1000000000000000) /\ Hid (A = (P : Int) + (n4 : Int) - (tl : Int) + ((((d.ns.map nsz).take k).sum : Nat) : Int))) (fun _ i _ => n1 - (intOf i).toNat)
 case atStart => exact ⟨rfl, 0, (P : Int) + (n4 : Int) - (tl : Int), Nat.zero_le _, rfl, by first | rfl | simp, by omega, by show _ = _; simp⟩
 case round =>
   obtain ⟨hwr, k, A, hk, rfl, rfl, hA, HA⟩ := hrel
   subst hwr
   by_cases hlt : k < n1
   · have hlt' : (k : Int) < (n1 : Int) := by omega
     have hki : k < d.ns.length := by rw [HL.out.1]; exact hlt
     obtain ⟨B1, o1, ha1, hl1, z1, hz1, hr1⟩ := H.out.2.2.1.h1.at k hki
     simp only at ha1
     subst ha1
     have hsum : ((d.ns.map nsz).take (k + 1)).sum = ((d.ns.map nsz).take k).sum + nsz d.ns[k] := by
       rw [List.take_succ_eq_append_getElem (by simp; exact hki), sum_snoc']; simp
     have hle : ((d.ns.map nsz).take (k + 1)).sum <= nsum d := sum_take' (d.ns.map nsz) (k + 1)
     have hA2 := HA.out
     have HA2 : Hid (A + (nsz d.ns[k] : Int) = (P : Int) + (n4 : Int) - (tl : Int) + ((((d.ns.map nsz).take (k + 1)).sum : Nat) : Int)) := by show _ = _; omega
     have hb2 : A + (nsz d.ns[k] : Int) <= 1000000000000000 := by have := HA2.out; omega
     have KS : Hid (∀ W, W = wr -> Calls Tryz.prog 49 #[.slice z1.a z1.n z1.c] W fun e w' => e = .returned (.int .i64 (nsz d.ns[k])) /\ w' = W) := by
       intro W e
       subst e
       exact psize_eq z1.a z1.n z1.c d.ns[k] W hr1.rd hr1.len (by omega)
     clear hsum hle hA2 hr1 HA
     generalize nsz d.ns[k] = q at *
     generalize z1.a = za at *
     generalize z1.n = zn at *
     generalize z1.c = zc at *
     have w3 : IntKind.i64.wrap (A + (q : Int)) = A + (q : Int) := by rw [IntKind.wrap_i64]; omega
     go_wp2_with fail
     refine (KS.out _ rfl).mono ?_
     rintro e Wx ⟨rfl, rfl⟩
     go_wp2_with fail
     refine ⟨⟨by first | rfl | trivial, k + 1, A + (q : Int), by omega, by go_num, by first | rfl | go_num, by omega, HA2⟩, ?_⟩
     simp [intOf]; omega
   · have hge : ¬ (k : Int) < (n1 : Int) := by omega
     have HA1 : Hid (A = (P : Int) + (n4 : Int) - (tl : Int) + (nsum d : Int)) := by
       have := HA.out
       rwa [List.take_of_length_le (by simp; rw [HL.out.1]; omega)] at this
     clear HA
     have c2 := H.out.2.1.2.2.1
     simp only at c2
     clear c0
     go_wp2_with fail
     obtain ⟨wz, hz⟩ : ∃ z, z = wr := ⟨_, rfl⟩
     subst hz
     go_loopw [5, 38] (fun v i wr => wr = wz /\ ∃ (j : Nat) (B : Int), j <= n3 /\ i = .int .i64 (j : Int) /\ v = .int .i64 B /\ (-1 <= B /\ B <= 1000000000000000) /\ Hid (B = A + ((((d.ts.map tz).take j).sum : Nat) : Int))) (fun _ i _ => n3 - (intOf i).toNat)
     case atStart => exact ⟨rfl, 0, A, Nat.zero_le _, rfl, rfl, hA, by show _ = _; simp⟩
     case round =>
       obtain ⟨hwr, j, B, hj, rfl, rfl, hB2, HBB⟩ := hrel
       subst hwr
       by_cases hjt : j < n3
       · have hjt' : (j : Int) < (n3 : Int) := by omega
         have hji : j < d.ts.length := by rw [HL.out.2]; exact hjt
         obtain ⟨B3, o3, ha3, hl3, hy3⟩ := H.out.2.2.1.h3.rd.at j hji
         simp only at ha3
         subst ha3
         have hsum : ((d.ts.map tz).take (j + 1)).sum = ((d.ts.map tz).take j).sum + (1 + d.ts[j].size) := by
           rw [List.take_succ_eq_append_getElem (by simp; exact hji), sum_snoc']; simp [tz]
         have hle : ((d.ts.map tz).take (j + 1)).sum <= tsum d := sum_take' _ (j + 1)
         have hA2 := HBB.out
         have hA3 := HA1.out
         have HB3 : Hid (B + (1 + (d.ts[j].size : Int)) = A + ((((d.ts.map tz).take (j + 1)).sum : Nat) : Int)) := by show _ = _; omega
         have hb3 : B + (1 + (d.ts[j].size : Int)) <= 1000000000000000 := by have := HB3.out; omega
         clear hsum hle hA2 hA3 HBB
         obtain ⟨s, hs⟩ : ∃ s, s = d.ts[j] := ⟨_, rfl⟩
         rw [<- hs] at HB3 hb3 hy3
         clear hs
         have w4 : IntKind.i64.wrap (1 + (s.size : Int)) = 1 + (s.size : Int) := by rw [IntKind.wrap_i64]; omega
         have w5 : IntKind.i64.wrap (B + (1 + (s.size : Int))) = B + (1 + (s.size : Int)) := by rw [IntKind.wrap_i64]; omega
         go_wp2_with fail
         refine ⟨⟨by first | rfl | trivial, j + 1, B + (1 + (s.size : Int)), by omega, by go_num, by first | rfl | go_num, by omega, HB3⟩, ?_⟩
         simp [intOf]; omega
       · have hge2 : ¬ (j : Int) < (n3 : Int) := by omega
         have HE : Hid (Z = B) := by
           have h1 := HBB.out
           rw [List.take_of_length_le (by simp; rw [HL.out.2]; omega)] at h1
           have h2 := HZ.out
           have h3 := HA1.out
           show Z = B
           have h4 : tsum d = (d.ts.map tz).sum := rfl
           omega
         clear HBB HA1
         go_wp2_with fail
         go_ret
         exact ⟨by rw [HE.out]; rfl, H.out.2.2.2⟩
end Go.Proofs.YtkjnbgekaifdfaaGreat
namespace Go.Proofs.YtkjnbgekaifdfaaGreat
open Go.ChangeShapes Go.WideShapes Go.ChangeAt Go.RowKit
theorem dec_wd (wd : Nat) (h : wd = 1 ∨ wd = 2 ∨ wd = 4) (n : Nat) : decide (n / 2 ^ (8 * wd) = 0) = decide (n <= most wd) := by
 apply decide_eq_decide.2
 rcases h with rfl | rfl | rfl <;> simp [most] <;> omega
theorem fitB_ge (n : Nat) (c : Int) (h : 0 <= c) : fitB n c = decide ((n : Int) = c) := by
 unfold fitB
 rw [if_neg (by omega), if_neg (by omega)]
theorem nil_of {α : Type} {l : List α} (h : (l.length : Int) = 0) : l = [] := List.eq_nil_of_length_eq_zero (by omega)
set_option maxHeartbeats 1000000 in
theorem fit_eq (t : Nat) (d : Dat) : (cntB (fs t) d && wthB (fs t) d) = fitsB t d := by
 obtain ⟨ns, us, ts, raw⟩ := d
 rw [Bool.eq_iff_iff]
 unfold cntB wthB fitsB
 rcases fs_cases t with ⟨ht, e⟩ | ⟨ht, e⟩ | ⟨ht, e⟩ | ⟨ht, e⟩ | ⟨ht, e⟩ | ⟨ht, e⟩ | ⟨ht, e⟩ | ⟨ht, e⟩ | ⟨ht, e⟩
 · have es' : shp t = ⟨0, 0, 0, 4, 0⟩ := by subst ht; rfl
   have q1 : t ≠ 16 := by omega
   have q2 : t ≠ 257 := by omega
   rw [e, es']
   simp only [fitB_ge _ ((0 : Nat) : Int) (by omega), fitB_ge _ (0 : Int) (by omega), fitB_ge _ ((1 : Nat) : Int) (by omega), fitB_ge _ (4 : Int) (by omega), fitB_ge _ (16 : Int) (by omega), Bool.and_eq_true, Bool.or_eq_true, decide_eq_true_eq, List.all_eq_true]
   constructor
   · rintro ⟨⟨⟨⟨h1, h2⟩, h3⟩, h4⟩, _⟩
     obtain rfl := nil_of h2
     obtain rfl := nil_of h3
     exact ⟨⟨⟨⟨⟨⟨⟨by omega, rfl⟩, .inr rfl⟩, .inl (by omega)⟩, .inr (by omega)⟩, by simp⟩, .inl q1⟩, .inl q2⟩
   · rintro ⟨⟨⟨⟨⟨⟨⟨h1, h2⟩, h3⟩, _⟩, h4⟩, _⟩, _⟩, _⟩
     obtain rfl := List.eq_nil_of_length_eq_zero h2
     obtain rfl := nil_of (l := ts) (by omega)
     exact ⟨⟨⟨⟨by omega, rfl⟩, rfl⟩, by omega⟩, ⟨by simp, by simp⟩, by simp⟩
 · have es' : shp t = ⟨0, 0, 0, 16, 0⟩ := by subst ht; rfl
   have q1 : t ≠ 16 := by omega
   have q2 : t ≠ 257 := by omega
   rw [e, es']
   simp only [fitB_ge _ ((0 : Nat) : Int) (by omega), fitB_ge _ (0 : Int) (by omega), fitB_ge _ ((1 : Nat) : Int) (by omega), fitB_ge _ (4 : Int) (by omega), fitB_ge _ (16 : Int) (by omega), Bool.and_eq_true, Bool.or_eq_true, decide_eq_true_eq, List.all_eq_true]
   constructor
   · rintro ⟨⟨⟨⟨h1, h2⟩, h3⟩, h4⟩, _⟩
     obtain rfl := nil_of h2
     obtain rfl := nil_of h3
     exact ⟨⟨⟨⟨⟨⟨⟨by omega, rfl⟩, .inr rfl⟩, .inl (by omega)⟩, .inr (by omega)⟩, by simp⟩, .inl q1⟩, .inl q2⟩
   · rintro ⟨⟨⟨⟨⟨⟨⟨h1, h2⟩, h3⟩, _⟩, h4⟩, _⟩, _⟩, _⟩
     obtain rfl := List.eq_nil_of_length_eq_zero h2
     obtain rfl := nil_of (l := ts) (by omega)
     exact ⟨⟨⟨⟨by omega, rfl⟩, rfl⟩, by omega⟩, ⟨by simp, by simp⟩, by simp⟩
 · have es' : shp t = ⟨1, 0, 0, 0, 0⟩ := by rcases ht with rfl | rfl | rfl <;> rfl
   have q1 : t ≠ 16 := by omega
   have q2 : t ≠ 257 := by omega
   rw [e, es']
   simp only [fitB_ge _ ((0 : Nat) : Int) (by omega), fitB_ge _ (0 : Int) (by omega), fitB_ge _ ((1 : Nat) : Int) (by omega), fitB_ge _ (4 : Int) (by omega), fitB_ge _ (16 : Int) (by omega), Bool.and_eq_true, Bool.or_eq_true, decide_eq_true_eq, List.all_eq_true]
   constructor
   · rintro ⟨⟨⟨⟨h1, h2⟩, h3⟩, h4⟩, _⟩
     obtain rfl := nil_of h2
     obtain rfl := nil_of h3
     exact ⟨⟨⟨⟨⟨⟨⟨by omega, rfl⟩, .inr rfl⟩, .inl (by omega)⟩, .inr (by omega)⟩, by simp⟩, .inl q1⟩, .inl q2⟩
   · rintro ⟨⟨⟨⟨⟨⟨⟨h1, h2⟩, h3⟩, _⟩, h4⟩, _⟩, _⟩, _⟩
     obtain rfl := List.eq_nil_of_length_eq_zero h2
     obtain rfl := nil_of (l := ts) (by omega)
     exact ⟨⟨⟨⟨by omega, rfl⟩, rfl⟩, by omega⟩, ⟨by simp, by simp⟩, by simp⟩
 · have es' : shp t = ⟨2, 5, 0, 0, 4⟩ := by subst ht; rfl
   have q1 : t ≠ 16 := by omega
   have q2 : t ≠ 257 := by omega
   have hd := dec_wd 4 (by simp)
   rw [e, es']
   simp only [hd, fitB_ge _ ((0 : Nat) : Int) (by omega), fitB_ge _ (0 : Int) (by omega), fitB_ge _ ((1 : Nat) : Int) (by omega), fitB_ge _ ((2 : Nat) : Int) (by omega), fitB_ge _ ((3 : Nat) : Int) (by omega), fitB_ge _ ((5 : Nat) : Int) (by omega), Bool.and_eq_true, Bool.or_eq_true, decide_eq_true_eq, List.all_eq_true]
   constructor
   · rintro ⟨⟨⟨⟨h1, h2⟩, h3⟩, h4⟩, ⟨h5, _⟩, _⟩
     obtain rfl := nil_of h3
     obtain rfl := nil_of h4
     exact ⟨⟨⟨⟨⟨⟨⟨by omega, by omega⟩, .inr rfl⟩, .inl (by omega)⟩, .inr rfl⟩, h5⟩, .inl q1⟩, .inl q2⟩
   · rintro ⟨⟨⟨⟨⟨⟨⟨h1, h2⟩, h3⟩, _⟩, h4⟩, h5⟩, _⟩, _⟩
     obtain rfl := nil_of (l := ts) (by omega)
     obtain rfl := nil_of (l := raw) (by omega)
     exact ⟨⟨⟨⟨by omega, by omega⟩, rfl⟩, rfl⟩, ⟨h5, by simp⟩, by simp⟩
 · have es' : shp t = ⟨1, 1, 0, 0, 2⟩ := by subst ht; rfl
   have q1 : t ≠ 16 := by omega
   have q2 : t ≠ 257 := by omega
   have hd := dec_wd 2 (by simp)
   rw [e, es']
   simp only [hd, fitB_ge _ ((0 : Nat) : Int) (by omega), fitB_ge _ (0 : Int) (by omega), fitB_ge _ ((1 : Nat) : Int) (by omega), fitB_ge _ ((2 : Nat) : Int) (by omega), fitB_ge _ ((3 : Nat) : Int) (by omega), fitB_ge _ ((5 : Nat) : Int) (by omega), Bool.and_eq_true, Bool.or_eq_true, decide_eq_true_eq, List.all_eq_true]
   constructor
   · rintro ⟨⟨⟨⟨h1, h2⟩, h3⟩, h4⟩, ⟨h5, _⟩, _⟩
     obtain rfl := nil_of h3
     obtain rfl := nil_of h4
     exact ⟨⟨⟨⟨⟨⟨⟨by omega, by omega⟩, .inr rfl⟩, .inl (by omega)⟩, .inr rfl⟩, h5⟩, .inl q1⟩, .inl q2⟩
   · rintro ⟨⟨⟨⟨⟨⟨⟨h1, h2⟩, h3⟩, _⟩, h4⟩, h5⟩, _⟩, _⟩
     obtain rfl := nil_of (l := ts) (by omega)
     obtain rfl := nil_of (l := raw) (by omega)
     exact ⟨⟨⟨⟨by omega, by omega⟩, rfl⟩, rfl⟩, ⟨h5, by simp⟩, by simp⟩
 · have es' : shp t = ⟨1, 3, 0, 0, 2⟩ := by subst ht; rfl
   have q1 : t ≠ 16 := by omega
   have q2 : t ≠ 257 := by omega
   have hd := dec_wd 2 (by simp)
   rw [e, es']
   simp only [hd, fitB_ge _ ((0 : Nat) : Int) (by omega), fitB_ge _ (0 : Int) (by omega), fitB_ge _ ((1 : Nat) : Int) (by omega), fitB_ge _ ((2 : Nat) : Int) (by omega), fitB_ge _ ((3 : Nat) : Int) (by omega), fitB_ge _ ((5 : Nat) : Int) (by omega), Bool.and_eq_true, Bool.or_eq_true, decide_eq_true_eq, List.all_eq_true]
   constructor
   · rintro ⟨⟨⟨⟨h1, h2⟩, h3⟩, h4⟩, ⟨h5, _⟩, _⟩
     obtain rfl := nil_of h3
     obtain rfl := nil_of h4
     exact ⟨⟨⟨⟨⟨⟨⟨by omega, by omega⟩, .inr rfl⟩, .inl (by omega)⟩, .inr rfl⟩, h5⟩, .inl q1⟩, .inl q2⟩
   · rintro ⟨⟨⟨⟨⟨⟨⟨h1, h2⟩, h3⟩, _⟩, h4⟩, h5⟩, _⟩, _⟩
     obtain rfl := nil_of (l := ts) (by omega)
     obtain rfl := nil_of (l := raw) (by omega)
     exact ⟨⟨⟨⟨by omega, by omega⟩, rfl⟩, rfl⟩, ⟨h5, by simp⟩, by simp⟩
 · have es' : shp t = ⟨0, 0, -1, 0, 0⟩ := by subst ht; rfl
   have q2 : t ≠ 257 := by omega
   rw [e, es']
   have f1 : fitB ts.length (-1) = decide (0 < ts.length) := by simp [fitB]
   simp only [f1, fitB_ge _ ((0 : Nat) : Int) (by omega), fitB_ge _ (0 : Int) (by omega), Bool.and_eq_true, Bool.or_eq_true, decide_eq_true_eq, List.all_eq_true]
   constructor
   · rintro ⟨⟨⟨⟨h1, h2⟩, h3⟩, h4⟩, _, h5⟩
     obtain rfl := nil_of h2
     obtain rfl := nil_of h4
     exact ⟨⟨⟨⟨⟨⟨⟨by omega, rfl⟩, .inl (by omega)⟩, .inr (by omega)⟩, .inr rfl⟩, by simp⟩, .inr (by simpa using h5)⟩, .inl q2⟩
   · rintro ⟨⟨⟨⟨⟨⟨⟨h1, h2⟩, h3⟩, h6⟩, h4⟩, h5⟩, h7⟩, _⟩
     obtain rfl := List.eq_nil_of_length_eq_zero h2
     obtain rfl := nil_of (l := raw) (by omega)
     exact ⟨⟨⟨⟨by omega, rfl⟩, by omega⟩, rfl⟩, ⟨by simp, by simp⟩, by have := h7.resolve_left (fun hh => hh ht); simpa using this⟩
 · have es' : shp t = ⟨0, 1, 2, 0, 1⟩ := by subst ht; rfl
   have q1 : t ≠ 16 := by omega
   have hd := dec_wd 1 (by simp)
   rw [e, es']
   simp only [hd, fitB_ge _ ((0 : Nat) : Int) (by omega), fitB_ge _ (0 : Int) (by omega), fitB_ge _ ((1 : Nat) : Int) (by omega), fitB_ge _ (2 : Int) (by omega), Bool.and_eq_true, Bool.or_eq_true, decide_eq_true_eq, List.all_eq_true]
   constructor
   · rintro ⟨⟨⟨⟨h1, h2⟩, h3⟩, h4⟩, ⟨h5, h6⟩, h7⟩
     rcases ts with _ | ⟨a, _ | ⟨b, _ | ⟨c, ts⟩⟩⟩
     · simp at h3
     · simp at h3
     · obtain rfl := nil_of h4
       exact ⟨⟨⟨⟨⟨⟨⟨by omega, by omega⟩, .inr rfl⟩, .inl (by omega)⟩, .inr rfl⟩, h5⟩, .inl q1⟩, .inr (h6 a (by simp))⟩
     · simp at h3; omega
   · rintro ⟨⟨⟨⟨⟨⟨⟨h1, h2⟩, h3⟩, _⟩, h4⟩, h5⟩, _⟩, h8⟩
     rcases ts with _ | ⟨a, _ | ⟨b, _ | ⟨c, ts⟩⟩⟩
     · simp at h3
     · simp at h3
     · obtain rfl := nil_of (l := raw) (by omega)
       have hta : tagB a = true := by have := h8.resolve_left (fun hh => hh ht); simpa using this
       have ha : a.size <= 255 := by simp [tagB] at hta; omega
       refine ⟨⟨⟨⟨by omega, by omega⟩, by simp⟩, rfl⟩, ⟨h5, by simp [hta]⟩, by simp [ha]⟩
     · simp at h3; omega
 · obtain ⟨h1, h2, h3, h4, h5, h6, h7, h8, h9, h10⟩ := ht
   have es' : shp t = ⟨0, 0, 0, -1, 0⟩ := by unfold shp; simp [h1, h2, h3, h4, h5, h6, h7, h8, h9, h10]
   rw [e, es']
   have f1 : fitB raw.length (-2) = true := by simp [fitB]
   simp only [f1, fitB_ge _ ((0 : Nat) : Int) (by omega), fitB_ge _ (0 : Int) (by omega), Bool.and_eq_true, Bool.or_eq_true, decide_eq_true_eq, List.all_eq_true]
   constructor
   · rintro ⟨⟨⟨⟨i1, i2⟩, i3⟩, i4⟩, _⟩
     obtain rfl := nil_of i2
     obtain rfl := nil_of i3
     exact ⟨⟨⟨⟨⟨⟨⟨by omega, rfl⟩, .inr rfl⟩, .inl (by omega)⟩, .inl (by omega)⟩, by simp⟩, .inl h9⟩, .inl h10⟩
   · rintro ⟨⟨⟨⟨⟨⟨⟨i1, i2⟩, i3⟩, _⟩, i4⟩, _⟩, _⟩, _⟩
     obtain rfl := List.eq_nil_of_length_eq_zero i2
     obtain rfl := nil_of (l := ts) (by omega)
     exact ⟨⟨⟨⟨by omega, rfl⟩, rfl⟩, trivial⟩, ⟨by simp, by simp⟩, by simp⟩
theorem tsum_nby (l : List ByteArray) : (l.map tz).sum = (nby l).length := by
 induction l with
 | nil => simp [nby]
 | cons a l ih =>
   have e : nby (a :: l) = (a.size : Int) :: (nums a ++ nby l) := by simp [nby]
   rw [e]
   simp [ih, nums_len, tz]
   omega
set_option maxHeartbeats 1000000 in
theorem psz_eq (t : Nat) (d : Dat) (h : fitsB t d = true) : pszI (fs t) d = (sizesF t d : Nat) := by
 obtain ⟨ns, us, ts, raw⟩ := d
 unfold fitsB at h
 unfold pszI sizesF nsum tsum
 simp only [Bool.and_eq_true, Bool.or_eq_true, decide_eq_true_eq] at h ⊢
 obtain ⟨⟨⟨⟨⟨⟨⟨h1, h2⟩, h3⟩, h6⟩, h4⟩, h5⟩, h7⟩, h8⟩ := h
 have key : (shp t).wd = (fs t).wd /\ ((((fs t).tl = 0 /\ t ≠ 257) /\ (t = 16 ∨ ((shp t).nt = 0))) ∨ ((fs t).tl = 1 /\ t = 257 /\ (shp t).nt = 2)) := by
   rcases fs_cases t with ⟨ht, e⟩ | ⟨ht, e⟩ | ⟨ht, e⟩ | ⟨ht, e⟩ | ⟨ht, e⟩ | ⟨ht, e⟩ | ⟨ht, e⟩ | ⟨ht, e⟩ | ⟨ht, e⟩
   · subst ht; exact ⟨rfl, .inl ⟨⟨rfl, by omega⟩, .inr rfl⟩⟩
   · subst ht; exact ⟨rfl, .inl ⟨⟨rfl, by omega⟩, .inr rfl⟩⟩
   · rcases ht with rfl | rfl | rfl <;> exact ⟨rfl, .inl ⟨⟨rfl, by omega⟩, .inr rfl⟩⟩
   · subst ht; exact ⟨rfl, .inl ⟨⟨rfl, by omega⟩, .inr rfl⟩⟩
   · subst ht; exact ⟨rfl, .inl ⟨⟨rfl, by omega⟩, .inr rfl⟩⟩
   · subst ht; exact ⟨rfl, .inl ⟨⟨rfl, by omega⟩, .inr rfl⟩⟩
   · subst ht; exact ⟨rfl, .inl ⟨⟨rfl, by omega⟩, .inl rfl⟩⟩
   · subst ht; exact ⟨rfl, .inr ⟨rfl, rfl, rfl⟩⟩
   · obtain ⟨i1, i2, i3, i4, i5, i6, i7, i8, i9, i10⟩ := ht
     have es' : shp t = ⟨0, 0, 0, -1, 0⟩ := by unfold shp; simp [i1, i2, i3, i4, i5, i6, i7, i8, i9, i10]
     rw [e, es']
     exact ⟨rfl, .inl ⟨⟨rfl, i10⟩, .inr rfl⟩⟩
 obtain ⟨kw, kt⟩ := key
 rw [kw, tsum_nby, Nat.mul_comm us.length]
 rcases kt with ⟨⟨k1, k2⟩, k3⟩ | ⟨k1, k2, k3⟩
 · rw [k1]
   rcases k3 with k3 | k3
   · have : tsz t ts = (nby ts).length := by unfold tsz; rw [if_pos k3]
     rw [this]; omega
   · have hz : ts = [] := nil_of (by omega)
     subst hz
     have : tsz t [] = 0 := by unfold tsz; split <;> simp [nby]
     rw [this]; simp [nby]; omega
 · rw [k1]
   rcases ts with _ | ⟨a, _ | ⟨b, _ | ⟨c, ts⟩⟩⟩
   · simp at h3; omega
   · simp at h3; omega
   · have : tsz t [a, b] = a.size + 1 + b.size := by unfold tsz; rw [if_neg (by omega)]; simp [nums_len]
     rw [this]
     have : (nby [a, b]).length = a.size + 1 + (b.size + 1) := by simp [nby, nums_len]; omega
     rw [this]; omega
   · simp at h3; omega
end Go.Proofs.YtkjnbgekaifdfaaGreat
namespace Go.Proofs.YtkjnbgekaifdfaaGreat
open Go.ChangeShapes Go.WideShapes Go.ChangeAt Go.RowKit
set_option maxHeartbeats 1000000 in
theorem pcheck_wide (a : Option Addr) (len cap : Nat) (ss : List ByteArray) (w : World) (hr : RdT w a ss) (hl : ss.length = len) (hm : labsOk ss -> nsz ss <= 1000000000000000) (hlen : len <= 9223372036854775807) (hz : ∀ s ∈ ss, s.size <= 9223372036854775807) :
   Calls Tryz.prog 42 #[.slice a len cap] w fun e w' => e = .returned (.int .i64 (nck ss)) /\ w' = w := by
 have HR : Hid (RdT w a ss /\ ∀ s ∈ ss, s.size <= 9223372036854775807) := ⟨hr, hz⟩
 have HL : Hid (ss.length = len) := hl
 have HS : Hid (labsOk ss -> ∀ W, RdT W a ss -> Calls Tryz.prog 49 #[.slice a len cap] W fun e w' => e = .returned (.int .i64 (nsz ss)) /\ w' = W) := fun ho W hW => psize_eq a len cap ss W hW hl (hm ho)
 obtain ⟨T, hT⟩ : ∃ T, nsz ss = T := ⟨_, rfl⟩
 have HT : Hid (nsz ss = T) := hT
 rw [hT] at HS
 clear hr hl hT hz hm
 go_enter Tryz.func42, Tryz.ntmps42
 go_wp2_with fail
 go_loopw [8] (fun x wr => ∃ k : Nat, k <= len /\ x = .int .i64 k /\ wr = w /\ Hid (∀ i (h : i < ss.length), i < k -> chk ss[i].size = 0)) (fun x _ => len - (intOf x).toNat)
 case atStart => exact ⟨0, Nat.zero_le _, rfl, rfl, fun i _ h => absurd h (by omega)⟩
 case round =>
   obtain ⟨k, hk, rfl, rfl, HK⟩ := hrel
   by_cases hlt : k < len
   · have hlt' : (k : Int) < (len : Int) := by omega
     have hks : k < ss.length := by rw [HL.out]; exact hlt
     obtain ⟨b, o, rfl, hb, hc⟩ := HR.out.1.at k hks
     have HC : Hid (∀ W, Calls Tryz.prog 71 #[.string ss[k]] W fun e w' => e = .returned (.int .i64 (chk ss[k].size)) /\ w' = W) := fun W => chk_any ss[k] W (HR.out.2 _ (List.getElem_mem hks))
     rcases chk_cases ss[k].size with hk0 | hk4
     · have HN : Hid (∀ i (h : i < ss.length), i < k + 1 -> chk ss[i].size = 0) := by
         intro i h hi
         by_cases e : i = k
         · subst e; exact hk0
         · exact HK.out i h (by omega)
       rw [hk0] at HC
       clear hk0 HK
       generalize ss[k] = s at *
       go_wp2_with fail
       refine (HC.out _).mono ?_
       rintro e w1 ⟨rfl, rfl⟩
       go_wp2
       exact ⟨⟨k + 1, by omega, by go_num, trivial, HN⟩, by simp [intOf]; omega⟩
     · have HE : Hid (nck ss = 4) := by
         show nck ss = 4
         unfold nck
         rw [if_neg (fun h => by have := h _ (List.getElem_mem hks); rw [hk4] at this; cases this)]
       rw [hk4] at HC
       clear hk4 HK
       generalize ss[k] = s at *
       go_wp2_with fail
       refine (HC.out _).mono ?_
       rintro e w1 ⟨rfl, rfl⟩
       go_wp2
       go_ret
       exact ⟨by rw [HE.out]; rfl, rfl⟩
   · have hge : (len : Int) <= (k : Int) := by omega
     have HO : Hid (labsOk ss) := by
       intro s hs
       obtain ⟨i, hi, rfl⟩ := List.getElem_of_mem hs
       exact HK.out i hi (by have := HL.out; omega)
     by_cases hb : 255 < T
     · have HE : Hid (nck ss = 5) := by show nck ss = 5; unfold nck; rw [if_pos HO.out, HT.out, if_pos hb]
       have hb' : (255 : Int) < (T : Int) := by omega
       clear HK
       go_wp2_with fail
       refine (HS.out HO.out _ HR.out.1).mono ?_
       rintro e w1 ⟨rfl, rfl⟩
       go_wp2
       go_ret
       exact ⟨by rw [HE.out]; rfl, rfl⟩
     · have HE : Hid (nck ss = 0) := by show nck ss = 0; unfold nck; rw [if_pos HO.out, HT.out, if_neg hb]
       have hb' : ¬ (255 : Int) < (T : Int) := by omega
       clear HK
       go_wp2_with fail
       refine (HS.out HO.out _ HR.out.1).mono ?_
       rintro e w1 ⟨rfl, rfl⟩
       go_wp2
       go_ret
       exact ⟨by rw [HE.out]; rfl, rfl⟩
end Go.Proofs.YtkjnbgekaifdfaaGreat
namespace Go.Proofs.YtkjnbgekaifdfaaGreat
open Go.ChangeShapes Go.WideShapes Go.ChangeAt Go.RowKit
theorem nsErr_drop' (l : List (List ByteArray)) (k : Nat) (h : ∀ n ∈ l.take k, nck n = 0) : nsErr l = nsErr (l.drop k) := by
 induction l generalizing k with
 | nil => simp
 | cons x l ih =>
   cases k with
   | zero => simp
   | succ k =>
     have h0 : nck x = 0 := h x (by simp)
     simp only [nsErr, List.drop_succ_cons]
     rw [if_pos h0]
     exact ih k (fun n hn => h n (by simp [hn]))
structure Bd (d : Dat) : Prop where
 n : d.ns.length <= 1000
 nl : ∀ x ∈ d.ns, x.length <= 1000000
 u : d.us.length <= 1000
 t : tsum d <= 1000000000000
 r : d.raw.length <= 1000000000000
theorem sum_le (l : List Nat) (m : Nat) (h : ∀ x ∈ l, x <= m) : l.sum <= l.length * m := by
 induction l with
 | nil => simp
 | cons a l ih =>
   have h1 := h a (by simp)
   have h2 := ih (fun x hx => h x (by simp [hx]))
   simp only [List.sum_cons, List.length_cons, Nat.succ_mul]
   omega
theorem Small.bd {d : Dat} (h : Small d) : Bd d := by
 have h1 := h.n
 have h2 := h.u
 have h3 := h.r
 refine ⟨by omega, fun x hx => by have := h.nl x hx; omega, by omega, ?_, by omega⟩
 have h4 := sum_le (d.ts.map tz) 301 (by
   intro x hx
   obtain ⟨s, hs, rfl⟩ := List.mem_map.1 hx
   have := h.tl s hs
   simp only [tz]; omega)
 have h5 := h.t
 rw [List.length_map] at h4
 have h6 : d.ts.length * 301 <= 300 * 301 := Nat.mul_le_mul_right _ h5
 unfold tsum
 omega
theorem nsz_labs (ss : List ByteArray) (h : labsOk ss) : nsz ss <= 64 * ss.length + 1 := by
 have h1 : (nby ss).length <= 64 * ss.length := by
   induction ss with
   | nil => simp [nby]
   | cons a l ih =>
     have e : nby (a :: l) = (a.size : Int) :: (nums a ++ nby l) := by simp [nby]
     have h0 := h a (by simp)
     have h2 := ih (fun x hx => h x (by simp [hx]))
     have h3 : a.size <= 63 := by unfold chk at h0; split at h0 <;> simp_all <;> omega
     rw [e]
     simp [nums_len]
     omega
 have := nby_len ss
 omega
theorem nsErr_zero {l : List (List ByteArray)} (h : nsErr l = 0) : ∀ n ∈ l, nck n = 0 := by
 induction l with
 | nil => simp
 | cons a l ih =>
   simp only [nsErr] at h
   by_cases ha : nck a = 0
   · rw [if_pos ha] at h
     intro n hn
     rcases List.mem_cons.1 hn with rfl | hn
     · exact ha
     · exact ih h n hn
   · rw [if_neg ha] at h; exact absurd h ha
theorem fs_wd (t : Nat) : (fs t).wd = 0 ∨ (fs t).wd = 1 ∨ (fs t).wd = 2 ∨ (fs t).wd = 4 := by
 rcases fs_cases t with ⟨_, e⟩ | ⟨_, e⟩ | ⟨_, e⟩ | ⟨_, e⟩ | ⟨_, e⟩ | ⟨_, e⟩ | ⟨_, e⟩ | ⟨_, e⟩ | ⟨_, e⟩ <;> rw [e] <;> simp
theorem fs_tl (t : Nat) : (fs t).tl <= 1 := by
 rcases fs_cases t with ⟨_, e⟩ | ⟨_, e⟩ | ⟨_, e⟩ | ⟨_, e⟩ | ⟨_, e⟩ | ⟨_, e⟩ | ⟨_, e⟩ | ⟨_, e⟩ | ⟨_, e⟩ <;> rw [e] <;> simp
theorem fs_tags (t : Nat) (d : Dat) (h : cntB (fs t) d = true) : (fs t).tg <= d.ts.length /\ (fs t).tl <= d.ts.length := by
 unfold cntB at h
 simp only [Bool.and_eq_true] at h
 obtain ⟨⟨⟨_, _⟩, h⟩, _⟩ := h
 rcases fs_cases t with ⟨_, e⟩ | ⟨_, e⟩ | ⟨_, e⟩ | ⟨_, e⟩ | ⟨_, e⟩ | ⟨_, e⟩ | ⟨_, e⟩ | ⟨_, e⟩ | ⟨_, e⟩ <;> rw [e] at h ⊢ <;> simp
 simp only at h
 rw [fitB_ge _ _ (by omega)] at h
 simp at h
 omega
def PkSt (w W : World) (b g : Nat) (f : Fs) (x : DA) (d : Dat) : Prop := DBox W b x /\ FBox W g f /\ DRd W x d /\ Below w.heap.size w W
theorem PkSt.go {w W W' : World} {b g : Nat} {f : Fs} {x : DA} {d : Dat} (h : PkSt w W b g f x d) (hb : Below W.heap.size W W') : PkSt w W' b g f x d :=
 ⟨h.1.below hb, h.2.1.below hb, h.2.2.1.below hb, h.2.2.2.trans (hb.mono h.2.2.2.size)⟩
theorem PkSt.new {w W : World} {b : Nat} (f : Fs) {x : DA} {d : Dat} (h1 : DBox W b x) (h2 : DRd W x d) (h3 : Below w.heap.size w W) : PkSt w (W.alloc (.cells #[.int .i64 f.nn, .int .i64 f.nf, .int .i64 f.nu, .int .i64 f.wd, .int .i64 f.nt, .int .i64 f.tg, .int .i64 f.tl, .int .i64 f.nr] 150)) b W.heap.size f x d := by
 have hb : Below W.heap.size W (W.alloc (.cells #[.int .i64 f.nn, .int .i64 f.nf, .int .i64 f.nu, .int .i64 f.wd, .int .i64 f.nt, .int .i64 f.tg, .int .i64 f.tl, .int .i64 f.nr] 150)) := (Below.refl _ _).alloc (Nat.le_refl _) _
 exact ⟨h1.below hb, FBox.new W f, h2.below hb, h3.trans (hb.mono h3.size)⟩
set_option maxHeartbeats 4000000 in
theorem check_any (t : Nat) (x : DA) (d : Dat) (w : World) (h : DRd w x d) (hB : Bd d) :
   Calls Tryz.prog 72 #[.int .u16 t, .agg #[.slice x.p1.a x.p1.n x.p1.c, .slice x.p2.a x.p2.n x.p2.c, .slice x.p3.a x.p3.n x.p3.c, .slice x.p4.a x.p4.n x.p4.c]] w fun e w' => e = .returned (.int .i64 (checkF t d)) /\ Hid (Below w.heap.size w w') := by
 have hb0 : Below w.heap.size w (w.alloc (.cells #[.slice x.p1.a x.p1.n x.p1.c, .slice x.p2.a x.p2.n x.p2.c, .slice x.p3.a x.p3.n x.p3.c, .slice x.p4.a x.p4.n x.p4.c] 60)) := (Below.refl _ _).alloc (Nat.le_refl _) _
 have H : Hid (DBox (w.alloc (.cells #[.slice x.p1.a x.p1.n x.p1.c, .slice x.p2.a x.p2.n x.p2.c, .slice x.p3.a x.p3.n x.p3.c, .slice x.p4.a x.p4.n x.p4.c] 60)) w.heap.size x /\ DRd (w.alloc (.cells #[.slice x.p1.a x.p1.n x.p1.c, .slice x.p2.a x.p2.n x.p2.c, .slice x.p3.a x.p3.n x.p3.c, .slice x.p4.a x.p4.n x.p4.c] 60)) x d /\ Below w.heap.size w (w.alloc (.cells #[.slice x.p1.a x.p1.n x.p1.c, .slice x.p2.a x.p2.n x.p2.c, .slice x.p3.a x.p3.n x.p3.c, .slice x.p4.a x.p4.n x.p4.c] 60))) := ⟨DBox.new w x, h.below hb0, hb0⟩
 have KC : Hid (∀ W, DRd W x d -> Calls Tryz.prog 98 #[.agg #[.int .i64 (fs t).nn, .int .i64 (fs t).nf, .int .i64 (fs t).nu, .int .i64 (fs t).wd, .int .i64 (fs t).nt, .int .i64 (fs t).tg, .int .i64 (fs t).tl, .int .i64 (fs t).nr], .agg #[.slice x.p1.a x.p1.n x.p1.c, .slice x.p2.a x.p2.n x.p2.c, .slice x.p3.a x.p3.n x.p3.c, .slice x.p4.a x.p4.n x.p4.c]] W fun e w' => e = .returned (.bool (cntB (fs t) d)) /\ Hid (Below W.heap.size W w')) := fun W hd => counted_any (fs t) x d W hd
 have KW : Hid (cntB (fs t) d = true -> ∀ W, DRd W x d -> Calls Tryz.prog 99 #[.agg #[.int .i64 (fs t).nn, .int .i64 (fs t).nf, .int .i64 (fs t).nu, .int .i64 (fs t).wd, .int .i64 (fs t).nt, .int .i64 (fs t).tg, .int .i64 (fs t).tl, .int .i64 (fs t).nr], .agg #[.slice x.p1.a x.p1.n x.p1.c, .slice x.p2.a x.p2.n x.p2.c, .slice x.p3.a x.p3.n x.p3.c, .slice x.p4.a x.p4.n x.p4.c]] W fun e w' => e = .returned (.bool (wthB (fs t) d)) /\ Hid (Below W.heap.size W w')) := fun hc W hd => within_any (fs t) x d W hd (fs_wd t) (fs_tags t d hc).1 (fs_tags t d hc).2
 have KZ : Hid (cntB (fs t) d = true -> wthB (fs t) d = true -> nsErr d.ns = 0 -> ∀ W, DRd W x d -> Calls Tryz.prog 100 #[.agg #[.int .i64 (fs t).nn, .int .i64 (fs t).nf, .int .i64 (fs t).nu, .int .i64 (fs t).wd, .int .i64 (fs t).nt, .int .i64 (fs t).tg, .int .i64 (fs t).tl, .int .i64 (fs t).nr], .agg #[.slice x.p1.a x.p1.n x.p1.c, .slice x.p2.a x.p2.n x.p2.c, .slice x.p3.a x.p3.n x.p3.c, .slice x.p4.a x.p4.n x.p4.c]] W fun e w' => e = .returned (.int .i64 (sizesF t d : Nat)) /\ Hid (Below W.heap.size W w')) := by
   intro h1 h2 h3 W hd
   have h4 : fitsB t d = true := by rw [<- fit_eq, h1, h2]; rfl
   rw [<- psz_eq t d h4]
   refine psize5_any (fs t) x d W hd (fs_tl t) ?_
   have h5 : nsum d <= 1000 * 255 := by
     have := sum_le (d.ns.map nsz) 255 (by
       intro y hy
       obtain ⟨n, hn, rfl⟩ := List.mem_map.1 hy
       exact (nck_small (nsErr_zero h3 n hn)).1)
     rw [List.length_map] at this
     have h6 : d.ns.length * 255 <= 1000 * 255 := Nat.mul_le_mul_right _ hB.n
     unfold nsum
     omega
   have h7 : (fs t).wd * d.us.length <= 4 * 1000 := Nat.mul_le_mul (by have := fs_wd t; omega) hB.u
   have h8 := hB.t
   have h9 := hB.r
   omega
 have KO : Hid (∀ W, Calls Tryz.prog 97 #[.int .u16 t] W fun e w' => e = .returned (.agg #[.int .i64 (fs t).nn, .int .i64 (fs t).nf, .int .i64 (fs t).nu, .int .i64 (fs t).wd, .int .i64 (fs t).nt, .int .i64 (fs t).tg, .int .i64 (fs t).tl, .int .i64 (fs t).nr]) /\ Hid (Below W.heap.size W w')) := fun W => fieldsof_any t W
 have hc1 : x.p1.n <= 9223372036854775807 := Nat.le_trans h.h1.cap.1 h.h1.cap.2
 have HL : Hid (d.ns.length = x.p1.n) := h.h1.len
 have HNB : Hid (∀ n ∈ d.ns, labsOk n -> nsz n <= 1000000000000000) := by
   intro n hn hl
   have h1 := nsz_labs n hl
   have h2 := hB.nl n hn
   omega
 have HQ : Hid (checkF t d = if mayT t then (if (cntB (fs t) d && wthB (fs t) d) then (if nsErr d.ns = 0 then (if 65535 < sizesF t d then 3 else 0) else nsErr d.ns) else 7) else 6) := by
   show _ = _
   rw [fit_eq]
   rfl
 obtain ⟨C, hC⟩ : ∃ C, checkF t d = C := ⟨_, rfl⟩
 rw [hC] at HQ ⊢
 have KH : Hid (∀ W, Calls Tryz.prog 96 #[.int .u16 t] W fun e w' => e = .returned (.bool (mayT t)) /\ w' = W) := fun W => hasdata_any t W
 clear hC h hb0 hB
 generalize hmay : mayT t = mt at *
 generalize hcnt : cntB (fs t) d = ct at *
 generalize hwth : wthB (fs t) d = wt at *
 generalize (fs t) = f at *
 generalize hsz : sizesF t d = sz at *
 clear hmay hcnt hwth hsz
 obtain ⟨nn, nf, nu, wd, nt, tg, tl, nr⟩ := f
 obtain ⟨⟨a1, n1, k1⟩, ⟨a2, n2, k2⟩, ⟨a3, n3, k3⟩, ⟨a4, n4, k4⟩⟩ := x
 simp only at H KC KW KZ KO hc1 HL ⊢
 go_enter Tryz.func72, Tryz.ntmps72
 go_wp2_with fail
 generalize (w.alloc (.cells #[.slice a1 n1 k1, .slice a2 n2 k2, .slice a3 n3 k3, .slice a4 n4 k4] 60)) = W1 at *
 obtain ⟨b, hb⟩ : ∃ b, b = w.heap.size := ⟨_, rfl⟩
 rw [<- hb] at H ⊢
 have Hb : Hid (b = w.heap.size) := hb
 clear hb
 refine (KH.out W1).mono ?_
 rintro e W1 ⟨rfl, rfl⟩
 clear KH
 cases mt with
 | false =>
   have HE : Hid (C = 6) := by show C = 6; have := HQ.out; simpa using this
   clear HQ KC KW KZ KO
   go_wp2_with fail
   go_ret
   exact ⟨by rw [HE.out]; rfl, by have := H.out.2.2; rw [Hb.out] at this; exact this⟩
 | true =>
 go_wp2_with fail
 refine (KO.out W1).mono ?_
 rintro e W2 ⟨rfl, H2⟩
 have H3 : Hid (PkSt w (W2.alloc (.cells #[.int .i64 nn, .int .i64 nf, .int .i64 nu, .int .i64 wd, .int .i64 nt, .int .i64 tg, .int .i64 tl, .int .i64 nr] 150)) b W2.heap.size ⟨nn, nf, nu, wd, nt, tg, tl, nr⟩ ⟨⟨a1, n1, k1⟩, ⟨a2, n2, k2⟩, ⟨a3, n3, k3⟩, ⟨a4, n4, k4⟩⟩ d) := PkSt.new ⟨nn, nf, nu, wd, nt, tg, tl, nr⟩ (H.out.1.below H2.out) (H.out.2.1.below H2.out) (by have := H.out.2.2; rw [Hb.out] at this; exact this.trans (H2.out.mono this.size))
 clear H H2 KO
 go_upto_region 4 with fail
 generalize (W2.alloc (.cells #[.int .i64 nn, .int .i64 nf, .int .i64 nu, .int .i64 wd, .int .i64 nt, .int .i64 tg, .int .i64 tl, .int .i64 nr] 150)) = W3 at *
 generalize W2.heap.size = g at *
 obtain ⟨s0, s1, s2, s3, s4, s5, s6, s7, _⟩ := H3.out.2.1
 have c0 := H3.out.1.1
 have c1 := H3.out.1.2.1
 have c2 := H3.out.1.2.2.1
 have c3 := H3.out.1.2.2.2.1
 simp only at s0 s1 s2 s3 s4 s5 s6 s7 c0 c1 c2 c3
 go_wp2_with fail
 refine (KC.out W3 H3.out.2.2.1).mono ?_
 rintro e W4 ⟨rfl, H4⟩
 have H5 : Hid (PkSt w W4 b g ⟨nn, nf, nu, wd, nt, tg, tl, nr⟩ ⟨⟨a1, n1, k1⟩, ⟨a2, n2, k2⟩, ⟨a3, n3, k3⟩, ⟨a4, n4, k4⟩⟩ d) := H3.out.go H4.out
 clear H3 H4 KC s0 s1 s2 s3 s4 s5 s6 s7 c0 c1 c2 c3
 cases ct with
 | false =>
   have HE : Hid (C = 7) := by show C = 7; have := HQ.out; simpa using this
   clear HQ KZ KW
   go_wp2_with fail
   go_ret
   exact ⟨by rw [HE.out]; rfl, H5.out.2.2.2⟩
 | true =>
 obtain ⟨s0, s1, s2, s3, s4, s5, s6, s7, _⟩ := H5.out.2.1
 have c0 := H5.out.1.1
 have c1 := H5.out.1.2.1
 have c2 := H5.out.1.2.2.1
 have c3 := H5.out.1.2.2.2.1
 simp only at s0 s1 s2 s3 s4 s5 s6 s7 c0 c1 c2 c3
 go_wp2_with fail
 refine (KW.out (by trivial) W4 H5.out.2.2.1).mono ?_
 rintro e W5 ⟨rfl, H4⟩
 have H6 : Hid (PkSt w W5 b g ⟨nn, nf, nu, wd, nt, tg, tl, nr⟩ ⟨⟨a1, n1, k1⟩, ⟨a2, n2, k2⟩, ⟨a3, n3, k3⟩, ⟨a4, n4, k4⟩⟩ d) := H5.out.go H4.out
 clear H5 H4 KW s0 s1 s2 s3 s4 s5 s6 s7 c0 c1 c2 c3
 cases wt with
 | false =>
   have HE : Hid (C = 7) := by show C = 7; have := HQ.out; simpa using this
   clear HQ KZ
   go_wp2_with fail
   go_ret
   exact ⟨by rw [HE.out]; rfl, H6.out.2.2.2⟩
 | true =>
 have HQ2 : Hid (C = if nsErr d.ns = 0 then (if 65535 < sz then 3 else 0) else nsErr d.ns) := by show C = _; have := HQ.out; simpa using this
 clear HQ
 have c0 := H6.out.1.1
 simp only at c0
 go_wp2_with fail
 go_loopw [27] (fun i wr => wr = W5 /\ ∃ k : Nat, k <= n1 /\ i = .int .i64 (k : Int) /\ Hid (∀ n ∈ d.ns.take k, nck n = 0)) (fun i _ => n1 - (intOf i).toNat)
 case atStart => exact ⟨rfl, 0, Nat.zero_le _, rfl, by intro n hn; simp at hn⟩
 case round =>
   obtain ⟨hwr, k, hk, rfl, HA⟩ := hrel
   subst hwr
   by_cases hlt : k < n1
   · have hlt' : (k : Int) < (n1 : Int) := by omega
     have hki : k < d.ns.length := by rw [HL.out]; exact hlt
     obtain ⟨B1, o1, ha1, hl1, z1, hz1, hr1⟩ := H6.out.2.2.1.h1.at k hki
     simp only at ha1
     subst ha1
     have HD : Hid (nsErr d.ns = if nck d.ns[k] = 0 then nsErr (d.ns.drop (k + 1)) else nck d.ns[k]) := by
       show _ = _
       rw [nsErr_drop' d.ns k HA.out, List.drop_eq_getElem_cons hki]
       rfl
     have HA2 : Hid (nck d.ns[k] = 0 -> ∀ n ∈ d.ns.take (k + 1), nck n = 0) := by
       intro h0 n hn
       rw [List.take_succ_eq_append_getElem hki] at hn
       simp only [List.mem_append, List.mem_singleton] at hn
       rcases hn with hn | rfl
       · exact HA.out n hn
       · exact h0
     have KC : Hid (∀ W, W = wr -> Calls Tryz.prog 42 #[.slice z1.a z1.n z1.c] W fun e w' => e = .returned (.int .i64 (nck d.ns[k])) /\ w' = W) := by
       intro W e
       subst e
       exact pcheck_wide z1.a z1.n z1.c d.ns[k] W hr1.rd hr1.len (HNB.out _ (List.getElem_mem _)) (Nat.le_trans hr1.cap.1 hr1.cap.2) hr1.z63
     clear hr1 HA
     generalize nck d.ns[k] = q at *
     generalize z1.a = za at *
     generalize z1.n = zn at *
     generalize z1.c = zc at *
     by_cases hq : q = 0
     · have hq' : (q != 0) = false := by simp [hq]
       have HA3 := HA2.out hq
       have HA4 : Hid (∀ n ∈ d.ns.take (k + 1), nck n = 0) := HA3
       clear HA3 HA2 HD hq
       go_wp2_with fail
       refine (KC.out _ rfl).mono ?_
       rintro e Wx ⟨rfl, rfl⟩
       go_wp2_with fail
       refine ⟨⟨by first | rfl | trivial, k + 1, by omega, by go_num, HA4⟩, ?_⟩
       simp [intOf]; omega
     · have hq' : (q != 0) = true := by simp [hq]
       have HE : Hid (C = q) := by
         have h1 := HQ2.out
         have h2 := HD.out
         rw [if_neg hq] at h2
         rw [h2, if_neg hq] at h1
         exact h1
       clear HA2 HD hq HQ2
       go_wp2_with fail
       refine (KC.out _ rfl).mono ?_
       rintro e Wx ⟨rfl, rfl⟩
       go_wp2_with fail
       go_ret
       exact ⟨by rw [HE.out]; rfl, H6.out.2.2.2⟩
   · have hge : ¬ (k : Int) < (n1 : Int) := by omega
     have HN : Hid (nsErr d.ns = 0) := by
       have h1 := HA.out
       rw [List.take_of_length_le (by rw [HL.out]; show n1 <= k; omega)] at h1
       have := nsErr_drop' d.ns d.ns.length (by rw [List.take_of_length_le (Nat.le_refl _)]; exact h1)
       rw [List.drop_length] at this
       exact this
     have HE : Hid (C = if 65535 < sz then 3 else 0) := by
       have h1 := HQ2.out
       rw [if_pos HN.out] at h1
       exact h1
     have KZ2 : Hid (∀ W, DRd W ⟨⟨a1, n1, k1⟩, ⟨a2, n2, k2⟩, ⟨a3, n3, k3⟩, ⟨a4, n4, k4⟩⟩ d -> Calls Tryz.prog 100 #[.agg #[.int .i64 nn, .int .i64 nf, .int .i64 nu, .int .i64 wd, .int .i64 nt, .int .i64 tg, .int .i64 tl, .int .i64 nr], .agg #[.slice a1 n1 k1, .slice a2 n2 k2, .slice a3 n3 k3, .slice a4 n4 k4]] W fun e w' => e = .returned (.int .i64 (sz : Nat)) /\ Hid (Below W.heap.size W w')) := KZ.out (by trivial) (by trivial) HN.out
     clear HA HN KZ HQ2
     obtain ⟨s0, s1, s2, s3, s4, s5, s6, s7, _⟩ := H6.out.2.1
     have c1 := H6.out.1.2.1
     have c2 := H6.out.1.2.2.1
     have c3 := H6.out.1.2.2.2.1
     simp only at s0 s1 s2 s3 s4 s5 s6 s7 c1 c2 c3
     go_wp2_with fail
     refine (KZ2.out _ H6.out.2.2.1).mono ?_
     rintro e W7 ⟨rfl, H7⟩
     have HB : Hid (Below w.heap.size w W7) := H6.out.2.2.2.trans (H7.out.mono H6.out.2.2.2.size)
     clear H7 H6 s0 s1 s2 s3 s4 s5 s6 s7 c0 c1 c2 c3 KZ2
     by_cases hs : 65535 < sz
     · have hs' : (65535 : Int) < (sz : Int) := by omega
       have HE2 : Hid (C = 3) := by have := HE.out; rw [if_pos hs] at this; exact this
       clear HE
       go_wp2_with fail
       go_ret
       exact ⟨by rw [HE2.out]; rfl, HB.out⟩
     · have hs' : ¬ (65535 : Int) < (sz : Int) := by omega
       have HE2 : Hid (C = 0) := by have := HE.out; rw [if_neg hs] at this; exact this
       clear HE
       go_wp2_with fail
       go_ret
       exact ⟨by rw [HE2.out]; rfl, HB.out⟩
end Go.Proofs.YtkjnbgekaifdfaaGreat
namespace Go.Proofs.YtkjnbgekaifdfaaGreat
open Go.ChangeShapes Go.WideShapes Go.ChangeAt Go.RowKit
theorem four_rd (w : World) (p q r s : Int) (hp : 0 <= p /\ p <= 255) (hq : 0 <= q /\ q <= 255) (hr : 0 <= r /\ r <= 255) (hs : 0 <= s /\ s <= 255) : Rd (w.alloc (.cells #[.int .u8 p, .int .u8 q, .int .u8 r, .int .u8 s] 5)) (some ⟨w.heap.size, 0, none⟩) [p, q, r, s] := by
 refine ⟨.inr ⟨w.heap.size, 0, rfl, by simp, fun i hi => ?_⟩, ?_⟩
 · simp only [List.length_cons, List.length_nil] at hi
   unfold World.cell?
   rw [heap_alloc_new]
   rcases (show i = 0 ∨ i = 1 ∨ i = 2 ∨ i = 3 by omega) with rfl | rfl | rfl | rfl <;> rfl
 · intro z hz
   simp only [List.mem_cons, List.not_mem_nil, or_false] at hz
   rcases hz with rfl | rfl | rfl | rfl <;> assumption
theorem rd_drop {w : World} {b o : Nat} {zs : List Int} (h : Rd w (some ⟨b, o, none⟩) zs) (k : Nat) : Rd w (some ⟨b, o + k, none⟩) (zs.drop k) := by
 refine ⟨?_, fun z hz => h.2 z (List.mem_of_mem_drop hz)⟩
 rcases h.1 with h1 | ⟨b', o', e, h2, h3⟩
 · left; rw [h1]; simp
 · cases e
   refine .inr ⟨b, o + k, rfl, h2, fun i hi => ?_⟩
   rw [List.length_drop] at hi
   rw [Nat.add_assoc, h3 (k + i) (by omega)]
   simp [List.getD_eq_getElem?_getD]
end Go.Proofs.YtkjnbgekaifdfaaGreat
namespace Go.Proofs.YtkjnbgekaifdfaaGreat
open Go.ChangeShapes Go.WideShapes Go.ChangeAt Go.RowKit
theorem own_mono {B B' : Nat} {w : World} {v : Value} {n : Nat} {zs : List Int} (h : Own B w v n zs) (hB : B' <= B) : Own B' w v n zs := by
 rcases h with h | ⟨g, h1, h2, h3⟩
 · exact .inl h
 · exact .inr ⟨g, h1, Nat.le_trans hB h2, h3⟩
def Gr (W3 W : World) (v : Value) (m : Nat) (L : List Int) : Prop := ∃ ys, Own W3.heap.size W v m ys /\ ys.take m = L /\ L.length = m /\ Below W3.heap.size W3 W
theorem Gr.go {W3 W W' : World} {v : Value} {m : Nat} {L : List Int} (h : Gr W3 W v m L) (hb : Below W.heap.size W W') : Gr W3 W' v m L := by
 obtain ⟨ys, h1, h2, h3, h4⟩ := h
 exact ⟨ys, h1.below hb, h2, h3, h4.trans (hb.mono h4.size)⟩
theorem Gr.bel {W3 W : World} {v : Value} {m : Nat} {L : List Int} (h : Gr W3 W v m L) : Below W3.heap.size W3 W := by
 obtain ⟨ys, h1, h2, h3, h4⟩ := h
 exact h4
theorem wp_gr (W3 w : World) {ops : Array Oper} {rest : List Oper} {o : Oper} {a : Act} {Q : Exit -> Act -> World -> Prop} (hgd : o.guard = none) (s x : Operand)
   (ho : o.op = .call { callee := .builtin .append, args := #[s, x], argTypes := #[29, 29] }) (v : Value) (m : Nat) (L : List Int) (hs : a.eval s = v) (hg : Gr W3 w v m L)
   (ao : Option Addr) (q c : Nat) (bs : List Int) (hx : a.eval x = .slice ao q c) (hr : Rd w ao bs) (hl : bs.length = q) (hc : ao = none -> c = 0) (hb : m + q <= 140737488355328)
   (h : ∀ v' w', Hid (Gr W3 w' v' (m + q) (L ++ bs)) -> wpList Tryz.prog ops Q rest (a.put o.dst v') w') : wpList Tryz.prog ops Q (o :: rest) a w := by
 obtain ⟨ys, h1, h2, h3, h4⟩ := hg
 refine wpList_append_blk w hgd s x ho W3.heap.size v m ys hs h1 ao q c bs hx hr hl hc hb h4.size ?_
 intro v' w' ys' hO' hT' hG'
 exact h v' w' ⟨ys', hO'.out, by rw [hT'.out, h2], by rw [List.length_append, h3, hl], h4.grown hG' h4.size h1.lt⟩
theorem wp_grs (W3 w : World) {ops : Array Oper} {rest : List Oper} {o : Oper} {a : Act} {Q : Exit -> Act -> World -> Prop} (hgd : o.guard = none) (s x : Operand)
   (ho : o.op = .call { callee := .builtin .append, args := #[s, x], argTypes := #[29, 9] }) (v : Value) (m : Nat) (L : List Int) (hs : a.eval s = v) (hg : Gr W3 w v m L)
   (t : ByteArray) (hx : a.eval x = .string t) (hb : m + t.size <= 140737488355328)
   (h : ∀ v' w', Hid (Gr W3 w' v' (m + t.size) (L ++ nums t)) -> wpList Tryz.prog ops Q rest (a.put o.dst v') w') : wpList Tryz.prog ops Q (o :: rest) a w := by
 obtain ⟨ys, h1, h2, h3, h4⟩ := hg
 refine wpList_append_str w hgd s x ho W3.heap.size v m ys hs h1 t hx hb h4.size ?_
 intro v' w' ys' hO' hT' hG'
 exact h v' w' ⟨ys', hO'.out, by rw [hT'.out, h2], by rw [List.length_append, h3, nums_len], h4.grown hG' h4.size h1.lt⟩
theorem flat_snoc {α : Type} (f : α -> List Int) (l : List α) (k : Nat) (hk : k < l.length) : (l.take (k + 1)).flatMap f = (l.take k).flatMap f ++ f l[k] := by
 rw [List.take_succ_eq_append_getElem hk, List.flatMap_append]; simp
theorem flat_take {α : Type} (f : α -> List Int) (l : List α) (k : Nat) : ((l.take k).flatMap f).length <= (l.flatMap f).length := by
 conv => rhs; rw [<- List.take_append_drop k l, List.flatMap_append, List.length_append]
 omega
theorem tsB_len (t : Nat) (l : List ByteArray) : (tsB t l).length = tsz t l := by
 unfold tsB tsz
 split
 · rfl
 · cases l with
   | nil => rfl
   | cons s r => simp [nums_len]; omega
structure Wrt (t : Nat) (d : Dat) : Prop where
 nu : ∀ u ∈ d.us, u <= most (shp t).wd /\ ((shp t).wd = 1 ∨ (shp t).wd = 2 ∨ (shp t).wd = 4)
 nm : ∀ n ∈ d.ns, nck n = 0
 tx : ∀ k (h : k < d.ts.length), (t = 16 ∨ k = 0) -> d.ts[k].size <= 255
 sz : (d.us.flatMap (fun n => numB n (shp t).wd)).length + (d.ns.flatMap nmB).length + (tsB t d.ts).length + d.raw.length <= 65535
 soa : t = 6 -> d.ns.length = 2 /\ d.ts = [] /\ d.raw = []
theorem nums_flat (us : List Nat) (wd : Nat) (h : us = [] ∨ wd = 1 ∨ wd = 2 ∨ wd = 4) : (us.flatMap (fun n => numB n wd)).length = us.length * wd := by
 rcases h with rfl | h
 · simp
 · induction us with
   | nil => simp
   | cons u r ih => rw [List.flatMap_cons, List.length_append, ih, numB_len u wd h, List.length_cons, Nat.add_mul]; omega
theorem names_flat (ns : List (List ByteArray)) : (ns.flatMap nmB).length = (ns.map nsz).sum := by
 induction ns with
 | nil => rfl
 | cons n r ih => rw [List.flatMap_cons, List.length_append, ih, nmB_len]; rfl
theorem wrt_of {t : Nat} {d : Dat} (h : checkF t d = 0) : Wrt t d := by
 obtain ⟨h1, h2, h3, h4⟩ := check_parts h
 have hf := (fit_iff t d).1 h2
 obtain ⟨fns, fus, fts, ft1, fraw, fun_, ftx, ftg⟩ := hf
 have hwd : d.us = [] ∨ ((shp t).wd = 1 ∨ (shp t).wd = 2 ∨ (shp t).wd = 4) := by
   rcases shp_cases t with ⟨_, e⟩ | ⟨_, e⟩ | ⟨_, e⟩ | ⟨_, e⟩ | ⟨_, e⟩ | ⟨_, e⟩ | ⟨_, e⟩ | ⟨_, e⟩ | ⟨_, e⟩ <;> rw [e] at fus ⊢ <;> simp only at fus ⊢ <;> first | exact .inl (len0 fus) | (right; decide)
 refine ⟨?_, h3, ?_, ?_, ?_⟩
 · intro u hu
   refine ⟨fun_ u hu, ?_⟩
   rcases hwd with h | h
   · rw [h] at hu; simp at hu
   · exact h
 · intro k hk hor
   by_cases h16 : t = 16
   · exact ftx h16 _ (List.getElem_mem hk)
   · have hk0 : k = 0 := hor.resolve_left h16
     subst hk0
     by_cases h257 : t = 257
     · have htg := ftg h257
       unfold tagB at htg
       simp only [Bool.and_eq_true, decide_eq_true_eq] at htg
       have e : d.ts.getD 0 ⟨#[]⟩ = d.ts[0] := by simp [List.getD_eq_getElem?_getD, hk]
       rw [e] at htg
       omega
     · have h0 : (shp t).nt = 0 := by
         rcases shp_cases t with ⟨_, e⟩ | ⟨_, e⟩ | ⟨_, e⟩ | ⟨_, e⟩ | ⟨_, e⟩ | ⟨_, e⟩ | ⟨h', e⟩ | ⟨h', e⟩ | ⟨_, e⟩ <;> first | exact absurd h' h16 | exact absurd h' h257 | rw [e]
       rw [h0] at fts
       omega
 · rw [nums_flat d.us _ hwd, names_flat, tsB_len]
   unfold sizesF at h4
   omega
 · intro h6
   subst h6
   refine ⟨fns, len0 ?_, len0 ?_⟩
   · rcases fts with h | h
     · exact absurd h (by decide)
     · have e : (shp 6).nt = 0 := rfl
       rw [e] at h; omega
   · rcases fraw with h | h
     · exact absurd h (by decide)
     · have e : (shp 6).nr = 0 := rfl
       rw [e] at h; omega
theorem rd_none {w : World} {zs : List Int} (h : Rd w none zs) : zs = [] := by
 rcases h.1 with h1 | ⟨b, o, e, _⟩
 · exact h1
 · cases e
end Go.Proofs.YtkjnbgekaifdfaaGreat
namespace Go.Proofs.YtkjnbgekaifdfaaGreat
open Go.ChangeShapes Go.WideShapes Go.ChangeAt Go.RowKit
theorem src_bytes {w : World} {ao : Option Addr} {m c : Nat} {news : List Int} (hr : Rd w ao news) (hl : news.length = m) : Src Tryz.prog 1 29 (.slice ao m c) m (news.map (Value.int .u8)) w := by
 cases ao with
 | some x => exact Src.ofSlice w Tryz.underlying29 x m c _ (by simp [hl]) (rd_cells hr) (by intro u hu; simp at hu; obtain ⟨z, _, rfl⟩ := hu; rfl)
 | none =>
   have hn : news = [] := by
     rcases hr with ⟨rfl, _⟩ | ⟨b, o, h, _⟩
     · rfl
     · cases h
   subst hn
   subst hl
   exact Src.ofNil w Tryz.underlying29 c
theorem rd_all {w : World} {ao : Option Addr} {news : List Int} (hr : Rd w ao news) : ∀ z ∈ news, 0 <= z /\ z <= 255 := by
 intro z hz
 obtain ⟨i, hi, rfl⟩ := List.getElem_of_mem hz
 have := hr.bd i
 rw [List.getD_eq_getElem?_getD, List.getElem?_eq_getElem hi] at this
 exact this
theorem wpList_append_fitB (w : World) {ops : Array Oper} {rest : List Oper} {o : Oper} {a : Act} {Q : Exit -> Act -> World -> Prop} (hgd : o.guard = none) (s x : Operand)
   (ho : o.op = .call { callee := .builtin .append, args := #[s, x], argTypes := #[29, 29] }) (B : Nat) (v : Value) (n : Nat) (zs : List Int) (hs : a.eval s = v) (hown : Own B w v n zs)
   (ao : Option Addr) (m c : Nat) (news : List Int) (hx : a.eval x = .slice ao m c) (hr : Rd w ao news) (hl : news.length = m) (hb : n + m <= 140737488355328) (hB : B <= w.heap.size)
   (h : ∀ v' w' zs', Hid (Own B w' v' (n + m) zs') -> Hid (zs'.take (n + m) = zs.take n ++ news) -> w.grownBy w' v.ownBlock -> Hid (n + m <= zs.length -> zs'.length = zs.length) -> wpList Tryz.prog ops Q rest (a.put o.dst v') w') : wpList Tryz.prog ops Q (o :: rest) a w := by
 refine wpList_append_row tyB w hgd s x 29 ho B v n (zs.map (Value.int .u8)) hs hown.toV (.slice ao m c) m (news.map (Value.int .u8)) hx (src_bytes hr hl) (by omega) (by simp only [maxLen]; omega) hB ?_
 intro v' w' xs' h1 h2 h3 h4
 obtain ⟨ys, rfl, hys⟩ := bytes_of xs' (h4.out.1 QB ⟨0, rfl, by omega, by omega⟩ (qb_map hown.all) (qb_map (rd_all hr)))
 refine h v' w' ys (h1.out.toOwn hys) ?_ h3 ?_
 · have h2' := h2.out
   rw [<- List.map_take, <- List.map_take, <- List.map_append] at h2'
   exact int_inj h2'
 · have := h4.out.2
   rw [List.length_map, List.length_map] at this
   exact this
theorem wpList_append_fitS (w : World) {ops : Array Oper} {rest : List Oper} {o : Oper} {a : Act} {Q : Exit -> Act -> World -> Prop} (hgd : o.guard = none) (s x : Operand)
   (ho : o.op = .call { callee := .builtin .append, args := #[s, x], argTypes := #[29, 9] }) (B : Nat) (v : Value) (n : Nat) (zs : List Int) (hs : a.eval s = v) (hown : Own B w v n zs)
   (t : ByteArray) (hx : a.eval x = .string t) (hb : n + t.size <= 140737488355328) (hB : B <= w.heap.size)
   (h : ∀ v' w' zs', Hid (Own B w' v' (n + t.size) zs') -> Hid (zs'.take (n + t.size) = zs.take n ++ nums t) -> w.grownBy w' v.ownBlock -> Hid (n + t.size <= zs.length -> zs'.length = zs.length) -> wpList Tryz.prog ops Q rest (a.put o.dst v') w') : wpList Tryz.prog ops Q (o :: rest) a w := by
 refine wpList_append_row tyB w hgd s x 9 ho B v n (zs.map (Value.int .u8)) hs hown.toV (.string t) t.size (byteCells t) hx (Src.ofString w Tryz.underlying9 t) (by omega) (by simp only [maxLen]; omega) hB ?_
 intro v' w' xs' h1 h2 h3 h4
 obtain ⟨ys, rfl, hys⟩ := bytes_of xs' (h4.out.1 QB ⟨0, rfl, by omega, by omega⟩ (qb_map hown.all) (by rw [cells_nums]; exact qb_map (nums_all t)))
 refine h v' w' ys (h1.out.toOwn hys) ?_ h3 ?_
 · have h2' := h2.out
   rw [cells_nums, <- List.map_take, <- List.map_take, <- List.map_append] at h2'
   exact int_inj h2'
 · have := h4.out.2
   rw [List.length_map, List.length_map] at this
   exact this
set_option maxHeartbeats 2000000 in
theorem pbytes_room (a : Option Addr) (n c : Nat) (ss : List ByteArray) (w : World) (h : Nm w a n ss) :
   Calls Tryz.prog 122 #[.slice a n c] w fun e w' => ∃ v ys, e = .returned (.tuple #[v, .int .i64 (nbytes ss).2]) /\ Hid (Own w.heap.size w' v (nbytes ss).1.length ys /\ ys.take (nbytes ss).1.length = (nbytes ss).1 /\ Below w.heap.size w w' /\ ys.length <= 140737488355328) := by
 have KC : Hid (Calls Tryz.prog 42 #[.slice a n c] w fun e w' => e = .returned (.int .i64 (nck ss)) /\ w' = w) := pm_check c h
 have HN : Hid (Nm w a n ss) := h
 have hn := h.n63
 have HL : Hid (ss.length = n) := h.len
 by_cases hk : nck ss = 0
 · rw [hk] at KC
   have hsm := nck_small hk
   have hp : nbytes ss = (nby ss ++ [0], 0) := by unfold nbytes; rw [if_pos hk]
   rw [hp]
   obtain ⟨T, hT0⟩ : ∃ T, nsz ss = T := ⟨_, rfl⟩
   have hT255 : T <= 255 := by rw [<- hT0]; exact hsm.1
   have HSZ : Hid (∀ k, (nby (ss.take k)).length + 1 <= T) := fun k => by have := nby_len (ss.take k); have := nsz_le ss k; omega
   have HWZ : Hid ((nby ss).length + 1 = T) := by show _ = _; rw [nby_len, hT0]
   have KS : Hid (Calls Tryz.prog 49 #[.slice a n c] w fun e w' => e = .returned (.int .i64 T) /\ w' = w) := by rw [<- hT0]; exact psize_eq a n c ss w h.rd h.len (by have := h.sz; omega)
   have HLB : Hid (∀ s ∈ ss, s.size <= 63) := fun s hs => by
     have := hsm.2 s hs
     unfold chk at this
     split at this
     · omega
     · cases this
   clear h hk hp hsm hT0
   go_enter Tryz.func122, Tryz.ntmps122
   go_wp2_with fail
   refine KC.out.mono ?_
   rintro e w1 ⟨rfl, rfl⟩
   go_wp2_with fail
   refine KS.out.mono ?_
   rintro e w1 ⟨rfl, rfl⟩
   go_wp2_with (at_make; refine wpList_make_blk _ rfl _ _ rfl 0 T _ _ rfl rfl rfl rfl (by omega) (by omega) ?_)
   have HW0 : Hid (∃ ys, Own w1.heap.size (w1.alloc (.cells (Array.replicate T (Value.int .u8 0)) 5)) (.slice (some ⟨w1.heap.size, 0, none⟩) 0 T) 0 ys /\ ys.take 0 = nby (ss.take 0) /\ ys.length = T) := by
     refine ⟨List.replicate T 0, .inr ⟨w1.heap.size, by simp, Nat.le_refl _, ⟨(heap_alloc_new _ _).trans (by simp), ?_⟩, by simp, by unfold maxLen; simp; omega⟩, by simp [nby], by simp⟩
     intro z hz
     rw [List.eq_of_mem_replicate hz]
     omega
   have HB0 : Hid (Below w1.heap.size w1 (w1.alloc (.cells (Array.replicate T (Value.int .u8 0)) 5))) := (Below.refl _ _).alloc (Nat.le_refl _) _
   generalize w1.alloc (.cells (Array.replicate T (Value.int .u8 0)) 5) = wa at *
   go_loopw [5, 18] (fun v x wr => ∃ (k m : Nat), k <= n /\ m + 1 <= T /\ x = .int .i64 k /\ Hid ((nby (ss.take k)).length = m) /\ Hid (∃ ys, Own w1.heap.size wr v m ys /\ ys.take m = nby (ss.take k) /\ ys.length = T) /\ Hid (Below w1.heap.size w1 wr)) (fun _ x _ => n - (intOf x).toNat)
   case atStart => exact ⟨0, 0, Nat.zero_le _, by have := HWZ.out; omega, rfl, rfl, HW0.out, HB0⟩
   case round =>
     obtain ⟨k, m, hkn, hm, rfl, HM, HW, HB⟩ := hrel
     clear HW0 HB0
     by_cases hlt : k < n
     · have hlt' : (k : Int) < (n : Int) := by omega
       have hks : k < ss.length := by rw [HL.out]; exact hlt
       obtain ⟨b, o, rfl, hb, hc⟩ := (HN.out.below HB.out).rd.at k hks
       have HCE : Hid (∀ W, Below w1.heap.size w1 W -> W.cell? ⟨b, o + k, none⟩ = some (.string ss[k])) := by
         intro W hW
         obtain ⟨b', o', e, _, h2⟩ := (HN.out.below hW).rd.at k hks
         cases e
         exact h2
       have hsz := HLB.out _ (List.getElem_mem hks)
       have HT : Hid (nby (ss.take (k + 1)) = nby (ss.take k) ++ [(ss[k].size : Int)] ++ nums ss[k] /\ (nby (ss.take (k + 1))).length = m + 1 + ss[k].size) := by
         have e : nby (ss.take (k + 1)) = nby (ss.take k) ++ [(ss[k].size : Int)] ++ nums ss[k] := by rw [take_snocT ss k hks, nby_snoc]
         exact ⟨e, by rw [e, List.length_append, List.length_append, HM.out, nums_len]; rfl⟩
       have hz2 := HSZ.out (k + 1)
       rw [HT.out.2] at hz2
       generalize ss[k] = s at *
       obtain ⟨ys, hO, hTk, hyl⟩ := HW.out
       have hnb : Below wr.heap.size wr (wr.alloc (.cells #[.int .u8 (s.size : Int)] 5)) := (Below.refl _ _).alloc (Nat.le_refl _) _
       have HO2 : Hid (Own w1.heap.size (wr.alloc (.cells #[.int .u8 (s.size : Int)] 5)) u5 m ys /\ ys.take m = nby (ss.take k) /\ ys.length = T) := ⟨hO.below hnb, hTk, hyl⟩
       have HR2 : Hid (Rd (wr.alloc (.cells #[.int .u8 (s.size : Int)] 5)) (some ⟨wr.heap.size, 0, none⟩) [(s.size : Int)]) := new_rd wr _ (by omega)
       have HNB : Hid (Below wr.heap.size wr (wr.alloc (.cells #[.int .u8 (s.size : Int)] 5))) := hnb
       clear hO hTk hnb hyl
       have hmod : (s.size : Int) % 256 = (s.size : Int) := by omega
       go_wp2_with (at_builtin; first
         | (refine wpList_append_fitB _ rfl _ _ rfl w1.heap.size _ m ys rfl HO2.out.1 (some ⟨wr.heap.size, 0, none⟩) 1 1 [(s.size : Int)] rfl HR2.out rfl (by omega) (Nat.le_trans HB.out.size HNB.out.size) ?_; intro v' w' ys' hO' hT' hG' hF'; have HB2 : Hid (Below w1.heap.size w1 w') := ((HB.out.trans (HNB.out.mono HB.out.size)).grown hG' (Nat.le_trans HB.out.size HNB.out.size) HO2.out.1.lt); have hc2 : w'.cell? ⟨b, o + k, none⟩ = some (.string s) := HCE.out _ HB2.out; clear HR2 hG')
         | (refine wpList_append_fitS _ rfl _ _ rfl w1.heap.size _ (m + 1) ys' rfl hO'.out s rfl (by omega) HB2.out.size ?_; intro v2 w2 ys2 hO2 hT2 hG2 hF2))
       refine ⟨⟨k + 1, m + 1 + s.size, by omega, hz2, by go_num, HT.out.2, ⟨ys2, hO2.out, ?_, ?_⟩, ?_⟩, by simp [intOf]; omega⟩
       · rw [hT2.out, hT'.out, HO2.out.2.1, HT.out.1]
       · rw [hF2.out (by rw [hF'.out (by rw [HO2.out.2.2]; omega), HO2.out.2.2]; omega), hF'.out (by rw [HO2.out.2.2]; omega), HO2.out.2.2]
       · exact HB2.out.grown hG2 HB2.out.size hO'.out.lt
     · have hge : (n : Int) <= (k : Int) := by omega
       have ek : ss.take k = ss := List.take_of_length_le (by rw [HL.out]; omega)
       obtain ⟨ys, hO, hTk, hyl⟩ := HW.out
       rw [ek] at hTk
       have HM2 : Hid ((nby ss).length = m) := by have := HM.out; rw [ek] at this; exact this
       have hnb : Below wr.heap.size wr (wr.alloc (.cells #[.int .u8 0] 5)) := (Below.refl _ _).alloc (Nat.le_refl _) _
       have HO2 : Hid (Own w1.heap.size (wr.alloc (.cells #[.int .u8 0] 5)) u5 m ys /\ ys.take m = nby ss /\ ys.length = T) := ⟨hO.below hnb, hTk, hyl⟩
       have HR2 : Hid (Rd (wr.alloc (.cells #[.int .u8 0] 5)) (some ⟨wr.heap.size, 0, none⟩) [0]) := new_rd wr _ (by omega)
       have HNB : Hid (Below wr.heap.size wr (wr.alloc (.cells #[.int .u8 0] 5))) := hnb
       clear hO hTk hnb ek hyl
       go_wp2_with (at_builtin; refine wpList_append_fitB _ rfl _ _ rfl w1.heap.size _ m ys rfl HO2.out.1 (some ⟨wr.heap.size, 0, none⟩) 1 1 [0] rfl HR2.out rfl (by omega) (Nat.le_trans HB.out.size HNB.out.size) ?_; intro v' w' ys' hO' hT' hG' hF'; have HB2 : Hid (Below w1.heap.size w1 w') := ((HB.out.trans (HNB.out.mono HB.out.size)).grown hG' (Nat.le_trans HB.out.size HNB.out.size) HO2.out.1.lt); clear hG')
       go_ret2
       refine ⟨v', ys', rfl, ?_, ?_, HB2.out, ?_⟩
       · rw [List.length_append, HM2.out]; exact hO'.out
       · rw [List.length_append, HM2.out]; exact hT'.out.trans (by rw [HO2.out.2.1])
       · rw [hF'.out (by rw [HO2.out.2.2]; omega), HO2.out.2.2]; omega
 · have hp : nbytes ss = ([], nck ss) := by unfold nbytes; rw [if_neg hk]
   rw [hp]
   generalize nck ss = q at *
   have hq : (q != 0) = true := bne_iff_ne.2 hk
   clear h hk hp
   go_enter Tryz.func122, Tryz.ntmps122
   go_wp2_with fail
   refine KC.out.mono ?_
   rintro e w1 ⟨rfl, rfl⟩
   go_wp2
   go_ret2
   exact ⟨.slice none 0 0, [], rfl, .inl ⟨rfl, rfl, rfl⟩, rfl, Below.refl _ _, Nat.zero_le _⟩
theorem pbytes_any (a : Option Addr) (n c : Nat) (ss : List ByteArray) (w : World) (h : Nm w a n ss) : Calls Tryz.prog 122 #[.slice a n c] w (fun e w' => ∃ v ys, e = .returned (.tuple #[v, .int .i64 (nbytes ss).2]) /\ Hid (Own w.heap.size w' v (nbytes ss).1.length ys /\ ys.take (nbytes ss).1.length = (nbytes ss).1 /\ Below w.heap.size w w')) :=
 (pbytes_room a n c ss w h).mono fun e w' ⟨v, ys, h1, h2⟩ => ⟨v, ys, h1, h2.out.1, h2.out.2.1, h2.out.2.2.1⟩
end Go.Proofs.YtkjnbgekaifdfaaGreat
namespace Go.Proofs.YtkjnbgekaifdfaaGreat
open Go.ChangeShapes Go.WideShapes Go.ChangeAt Go.RowKit
theorem neq_ptr_same (a : Addr) (w : World) : (binOp .neq 192 (.pointer (some a)) (.pointer (some a))).run Tryz.prog w = .ok (.bool false) w := by
 obtain ⟨j, hi⟩ : ∃ j, Tryz.prog.info? 204 = some j := Option.isSome_iff_exists.1 (by kernel_rfl)
 have h : ∀ d : Nat, (Op.equalIn (d + 1) 192 (.pointer (some a)) (.pointer (some a))).run Tryz.prog w = .ok true w := fun d => by
   simp [Op.equalIn, run_underlying Tryz.underlying192, sizeOf, typeInfo, hi, run_sameAddr_same]
 simp only [binOp]
 simp [Op.equal, Op.maxDepth, h 9999]
theorem view0 (a b c d : Value) (w : World) : (Instr.field 208 (.agg #[a, b, c, d]) 0).run Tryz.prog w = .ok a w := by kernel_rfl
theorem view1 (a b c d : Value) (w : World) : (Instr.field 208 (.agg #[a, b, c, d]) 1).run Tryz.prog w = .ok b w := by kernel_rfl
theorem view2 (a b c d : Value) (w : World) : (Instr.field 208 (.agg #[a, b, c, d]) 2).run Tryz.prog w = .ok c w := by kernel_rfl
theorem view3 (a b c d : Value) (w : World) : (Instr.field 208 (.agg #[a, b, c, d]) 3).run Tryz.prog w = .ok d w := by kernel_rfl
theorem slice_is_nil (a : Option Addr) (n c : Nat) (w : World) : (binOp .eql 29 (.slice a n c) (.slice none 0 0)).run Tryz.prog w = .ok (.bool a.isNone) w := Lib.run_eql_slice_nil w _ _ _ _ _ _ _ Tryz.underlying29
attribute [local go_sem] view0 view1 view2 view3 slice_is_nil
set_option maxHeartbeats 400000 in
theorem number_any (a : Option Addr) (len cap : Nat) (zs : List Int) (w : World) (hr : Rd w a zs) (hl : zs.length = len) (hm : len <= 4) :
   Calls Tryz.prog 127 #[.slice a len cap] w fun e w' => e = .returned (.int .u32 (val zs)) /\ w' = w := by
 have HL : Hid (zs.length = len) := hl
 have HR : Hid (Rd w a zs) := hr
 clear hl hr
 go_enter Tryz.func127, Tryz.ntmps127
 go_wp2
 go_loop [3, 8] (fun n i => ∃ k : Nat, k <= len /\ i = .int .i64 k /\ n = .int .u32 (val (zs.take k))) (fun _ i => len - (intOf i).toNat)
 case atStart => exact ⟨0, Nat.zero_le _, rfl, rfl⟩
 case round =>
   obtain ⟨k, hk, rfl, rfl⟩ := hrel
   by_cases hlt : k < len
   · rcases HR.out.1 with h1 | ⟨b, o, rfl, h1, h2⟩
     · have := HL.out; subst h1; simp at this; omega
     · have hc := h2 k (by rw [HL.out]; exact hlt)
       have hb := HR.out.bd k
       have hv := val_small zs HR.out.2 k (by omega)
       clear h2
       have hlt' : (k : Int) < (len : Int) := by omega
       go_wp2
       go_round
       case rel =>
         refine ⟨k + 1, by omega, by go_num, ?_⟩
         rw [take_snoc zs k (by rw [HL.out]; exact hlt), val_snoc, <- List.getD_eq_getElem?_getD, u32_join _ _ hv.1 hv.2 hb.1 hb.2]
       case measure => simp [intOf]; omega
   · obtain rfl : k = len := by omega
     go_wp2
     go_ret
     have : zs.take k = zs := List.take_of_length_le (by rw [HL.out]; exact Nat.le_refl _)
     rw [this]
     exact ⟨rfl, rfl⟩
end Go.Proofs.YtkjnbgekaifdfaaGreat
namespace Go.Proofs.YtkjnbgekaifdfaaGreat
open Go.ChangeShapes Go.WideShapes Go.ChangeAt Go.RowKit
attribute [local go_sem] view0 view1 view2 view3 slice_is_nil
def RBlk (w : World) (g : Nat) (t : Value) (k : Int) (bad : Bool) : Prop :=
 w.heap[g]? = some (.cells #[.pointer (some ⟨g, 0, none⟩), t, .int .i64 k, .bool bad] 204 (0, 0))
theorem RBlk.lt {w : World} {g : Nat} {t : Value} {k : Int} {bad : Bool} (h : RBlk w g t k bad) : g < w.heap.size := (Array.getElem?_eq_some_iff.1 h).1
theorem RBlk.c0 {w : World} {g : Nat} {t : Value} {k : Int} {bad : Bool} (h : RBlk w g t k bad) : w.cell? ⟨g, 0, none⟩ = some (.pointer (some ⟨g, 0, none⟩)) := by
 have h' : w.heap[g]? = _ := h
 simp [World.cell?, h']
theorem RBlk.c1 {w : World} {g : Nat} {t : Value} {k : Int} {bad : Bool} (h : RBlk w g t k bad) : w.cell? ⟨g, 1, none⟩ = some t := by
 have h' : w.heap[g]? = _ := h
 simp [World.cell?, h']
theorem RBlk.c2 {w : World} {g : Nat} {t : Value} {k : Int} {bad : Bool} (h : RBlk w g t k bad) : w.cell? ⟨g, 2, none⟩ = some (.int .i64 k) := by
 have h' : w.heap[g]? = _ := h
 simp [World.cell?, h']
theorem RBlk.c3 {w : World} {g : Nat} {t : Value} {k : Int} {bad : Bool} (h : RBlk w g t k bad) : w.cell? ⟨g, 3, none⟩ = some (.bool bad) := by
 have h' : w.heap[g]? = _ := h
 simp [World.cell?, h']
theorem RBlk.fz {w : World} {g : Nat} {t : Value} {k : Int} {bad : Bool} (h : RBlk w g t k bad) (i : Nat) : w.frozen? ⟨g, i, none⟩ = false := by
 have h' : w.heap[g]? = _ := h
 simp [World.frozen?, h']
theorem RBlk.same {w w' : World} {g : Nat} {t : Value} {k : Int} {bad : Bool} (h : RBlk w g t k bad) (hb : w'.heap[g]? = w.heap[g]?) : RBlk w' g t k bad := hb.trans h
theorem RBlk.at {w : World} {g : Nat} {t : Value} {k : Int} {bad : Bool} (h : RBlk w g t k bad) (k' : Int) : RBlk (w.setCell ⟨g, 2, none⟩ (.int .i64 k')) g t k' bad := heap_set h 2 _
set_option maxHeartbeats 400000 in
theorem piece_in (a : Option Addr) (len cap at_ n : Nat) (zs : List Int) (w : World) (hr : Rd w a zs) (hl : zs.length = len) (hc : len <= cap) (hm : len <= 140737488355328) (hn : at_ + n <= len) :
   Calls Tryz.prog 126 #[.slice a len cap, .int .i64 at_, .int .i64 n] w fun e w' => (∃ a', e = .returned (.tuple #[.slice a' n (cap - at_), .bool true]) /\ Hid ((∀ W, Rd W a zs -> Rd W a' ((zs.drop at_).take n)) /\ (a' = none -> a = none))) /\ w' = w := by
 have HL : Hid (zs.length = len) := hl
 have HR : Hid (Rd w a zs) := hr
 clear hl hr
 have h1 : ¬ (at_ : Int) < 0 := by omega
 have h2 : (at_ : Int) <= (len : Int) := by omega
 have h3 : ¬ (n : Int) < 0 := by omega
 have h4 : (n : Int) <= (len : Int) - (at_ : Int) := by omega
 go_enter Tryz.func126, Tryz.ntmps126
 go_wp2
 · go_ret2
   exact ⟨⟨_, rfl, fun W hW => hW.cut at_ n (by rw [HL.out]; exact hn) (fun h b o e => absurd h (by omega)), fun e => e⟩, rfl⟩
 · go_ret2
   exact ⟨⟨_, rfl, fun W hW => hW.cut at_ n (by rw [HL.out]; exact hn) (fun h b o e => by subst e; simp [Addr.add]), fun e => Option.map_eq_none_iff.1 e⟩, rfl⟩
set_option maxHeartbeats 400000 in
theorem piece_out (a : Option Addr) (len cap : Nat) (at_ n : Int) (w : World) (hm : len <= 140737488355328)
   (h : at_ < 0 ∨ (0 <= at_ /\ (len : Int) < at_) ∨ (0 <= at_ /\ at_ <= (len : Int) /\ n < 0) ∨ (0 <= at_ /\ at_ <= (len : Int) /\ 0 <= n /\ (len : Int) - at_ < n)) :
   Calls Tryz.prog 126 #[.slice a len cap, .int .i64 at_, .int .i64 n] w fun e w' => e = .returned (.tuple #[.slice none 0 0, .bool false]) /\ w' = w := by
 rcases h with h | ⟨h0, h⟩ | ⟨h0, h1, h⟩ | ⟨h0, h1, h2, h⟩
 · go_enter Tryz.func126, Tryz.ntmps126
   go_wp2
   go_ret2
   exact ⟨rfl, rfl⟩
 · go_enter Tryz.func126, Tryz.ntmps126
   go_wp2
   go_ret2
   exact ⟨rfl, rfl⟩
 · go_enter Tryz.func126, Tryz.ntmps126
   go_wp2
   go_ret2
   exact ⟨rfl, rfl⟩
 · go_enter Tryz.func126, Tryz.ntmps126
   go_wp2
   go_ret2
   exact ⟨rfl, rfl⟩
def Off (a : Option Addr) (g : Nat) : Prop := ∀ b o, a = some ⟨b, o, none⟩ -> b ≠ g
theorem Rd.grown {w w' : World} {a : Option Addr} {zs : List Int} {g : Nat} (h : Rd w a zs) (hg : w.grownBy w' (some g)) (ho : Off a g) : Rd w' a zs := by
 refine ⟨?_, h.2⟩
 rcases h.1 with h1 | ⟨b, o, rfl, h1, h2⟩
 · exact .inl h1
 · refine .inr ⟨b, o, rfl, Nat.lt_of_lt_of_le h1 hg.size, fun i hi => ?_⟩
   rw [<- h2 i hi]
   exact World.cell?_of_block (w := w) (a := ⟨b, o + i, none⟩) (hg.block b h1 (fun e => ho b o rfl (Option.some.inj e)))
theorem moved (g : Nat) (t : Value) (k k' : Int) (w : World) (hb : RBlk w g t k false) (cs : Array Value) :
   RBlk ((w.setCell ⟨g, 2, none⟩ (.int .i64 k')).alloc (.cells cs 208)) g t k' false /\ ((w.setCell ⟨g, 2, none⟩ (.int .i64 k')).alloc (.cells cs 208)).heap[w.heap.size]? = some (.cells cs 208 (0, 0)) /\
   w.grownBy ((w.setCell ⟨g, 2, none⟩ (.int .i64 k')).alloc (.cells cs 208)) (some g) /\ ((w.setCell ⟨g, 2, none⟩ (.int .i64 k')).alloc (.cells cs 208)).heap.size = w.heap.size + 1 := by
 have hsz : (w.setCell ⟨g, 2, none⟩ (.int .i64 k')).heap.size = w.heap.size := by simp [World.setCell]
 have hold : ∀ j, j < w.heap.size -> ((w.setCell ⟨g, 2, none⟩ (.int .i64 k')).alloc (.cells cs 208)).heap[j]? = (w.setCell ⟨g, 2, none⟩ (.int .i64 k')).heap[j]? := fun j hj => Below.heap_alloc _ _ j (by rw [hsz]; exact hj)
 refine ⟨(hb.at k').same (hold g hb.lt), ?_, ⟨rfl, rfl, rfl, by simp [hsz], fun j hj hne => ?_⟩, by simp [hsz]⟩
 · have := heap_alloc_new (w.setCell ⟨g, 2, none⟩ (.int .i64 k')) (.cells cs 208)
   rw [hsz] at this
   exact this
 · rw [hold j hj]
   exact Below.heap_setCell _ _ _ j (fun e => hne (by rw [e]))
theorem cells4 {w : World} {s : Nat} {a b c d : Value} {t : TypeId} (h : w.heap[s]? = some (.cells #[a, b, c, d] t (0, 0))) :
   w.cell? ⟨s, 0, none⟩ = some a /\ w.cell? ⟨s, 1, none⟩ = some b /\ w.cell? ⟨s, 2, none⟩ = some c /\ w.cell? ⟨s, 3, none⟩ = some d /\ ∀ i, w.frozen? ⟨s, i, none⟩ = false := by
 simp [World.cell?, World.frozen?, h]
theorem moved_end {w W1 : World} {g s : Nat} {t : Value} {k' : Int} {bad : Bool} (h : RBlk W1 g t k' bad /\ w.grownBy W1 (some g)) (hs : w.heap.size = s) (hg : g < s) (x0 x1 x2 x3 : Value) :
   RBlk ((((W1.setCell ⟨s, 0, none⟩ x0).setCell ⟨s, 1, none⟩ x1).setCell ⟨s, 2, none⟩ x2).setCell ⟨s, 3, none⟩ x3) g t k' bad /\
   w.grownBy ((((W1.setCell ⟨s, 0, none⟩ x0).setCell ⟨s, 1, none⟩ x1).setCell ⟨s, 2, none⟩ x2).setCell ⟨s, 3, none⟩ x3) (some g) := by
 have hold : ∀ j, j < s -> ((((W1.setCell ⟨s, 0, none⟩ x0).setCell ⟨s, 1, none⟩ x1).setCell ⟨s, 2, none⟩ x2).setCell ⟨s, 3, none⟩ x3).heap[j]? = W1.heap[j]? := by
   intro j hj
   have hne : j ≠ s := by omega
   rw [Below.heap_setCell _ _ _ j hne, Below.heap_setCell _ _ _ j hne, Below.heap_setCell _ _ _ j hne, Below.heap_setCell _ _ _ j hne]
 refine ⟨h.1.same (hold g hg), h.2.os, h.2.tape, h.2.output, ?_, fun j hj hne => (hold j (by omega)).trans (h.2.block j hj hne)⟩
 have := h.2.size
 simpa [World.setCell] using this
set_option maxHeartbeats 1000000 in
theorem move_here (g : Nat) (a : Option Addr) (len cap k n : Nat) (zs : List Int) (w : World) (hb : RBlk w g (.slice a len cap) k false) (hr : Rd w a zs) (hl : zs.length = len) (hc : len <= cap) (hm : len <= 140737488355328) (hn : k + n <= len) (ho : Off a g) :
   Calls Tryz.prog 154 #[.pointer (some ⟨g, 0, none⟩), .int .u8 0, .int .i64 n] w fun e w' => ∃ ov, e = .returned (.agg #[.slice ov n (cap - k), .int .i64 ((k : Int) + (n : Int)), .int .i64 ((len : Int) - ((k : Int) + (n : Int))), .bool false]) /\
     Hid (Rd w' ov ((zs.drop k).take n) /\ (ov = none -> a = none) /\ RBlk w' g (.slice a len cap) ((k : Int) + (n : Int)) false /\ w.grownBy w' (some g)) := by
 have HB : Hid (RBlk w g (.slice a len cap) k false) := hb
 have HR : Hid (Rd w a zs) := hr
 have HL : Hid (zs.length = len) := hl
 have HO : Hid (Off a g) := ho
 have hg := hb.lt
 have c0 := hb.c0
 have c1 := hb.c1
 have c2 := hb.c2
 have c3 := hb.c3
 have f2 := hb.fz 2
 have hne := neq_ptr_same ⟨g, 0, none⟩
 clear hb hr hl ho
 go_enter Tryz.func154, Tryz.ntmps154
 go_wp2_with fail
 refine (piece_in a len cap k n zs _ (HR.out.below ((Below.refl _ _).alloc (Nat.le_refl _) _)) HL.out hc hm hn).mono ?_
 rintro e w' ⟨⟨ov, rfl, H1⟩, rfl⟩
 go_wp2_with fail
 have hkn : (k : Int) + (n : Int) <= (len : Int) := by omega
 have hw : IntKind.i64.wrap ((len : Int) - ((k : Int) + (n : Int))) = (len : Int) - ((k : Int) + (n : Int)) := by rw [IntKind.wrap_i64]; omega
 have hgw : ¬ w.heap.size = g := by omega
 obtain ⟨m1, m2, m3, m4⟩ := moved g (.slice a len cap) k ((k : Int) + (n : Int)) w HB.out #[.slice none 0 0, .int .i64 0, .int .i64 0, .bool false]
 obtain ⟨v0, v1, v2, v3, v4⟩ := cells4 m2
 have d1 := m1.c1
 have d2 := m1.c2
 have HM : Hid (RBlk ((w.setCell ⟨g, 2, none⟩ (.int .i64 ((k : Int) + (n : Int)))).alloc (.cells #[.slice none 0 0, .int .i64 0, .int .i64 0, .bool false] 208)) g (.slice a len cap) ((k : Int) + (n : Int)) false /\ w.grownBy ((w.setCell ⟨g, 2, none⟩ (.int .i64 ((k : Int) + (n : Int)))).alloc (.cells #[.slice none 0 0, .int .i64 0, .int .i64 0, .bool false] 208)) (some g)) := ⟨m1, m3⟩
 clear m1 m2 m3 c0 c1 c2 c3 f2 hne
 generalize (w.setCell ⟨g, 2, none⟩ (.int .i64 ((k : Int) + (n : Int)))).alloc (.cells #[.slice none 0 0, .int .i64 0, .int .i64 0, .bool false] 208) = W1 at *
 generalize hs : w.heap.size = s at *
 have HS : Hid (w.heap.size = s) := hs
 clear hs
 have v4a := v4 0
 have v4b := v4 1
 have v4c := v4 2
 have v4d := v4 3
 clear v4
 go_region_held3 (fun W => W.cell? ⟨g, 1, none⟩ = some (.slice a len cap) /\ W.cell? ⟨g, 2, none⟩ = some (.int .i64 ((k : Int) + (n : Int)))) (go_keep) (fail)
 go_wp2
 obtain ⟨h1, h2⟩ := H1.out
 have hM := moved_end HM.out HS.out (by omega) (.slice ov n (cap - k)) (.int .i64 ((k : Int) + (n : Int))) (.int .i64 ((len : Int) - ((k : Int) + (n : Int)))) (.bool false)
 have hR := h1 _ (HR.out.grown hM.2 HO.out)
 clear h1
 refine bodyPost_ret (v := .agg #[.slice ov n (cap - k), .int .i64 ((k : Int) + (n : Int)), .int .i64 ((len : Int) - ((k : Int) + (n : Int))), .bool false]) ?_ rfl ⟨ov, rfl, hR, h2, hM.1, hM.2.os, hM.2.tape, hM.2.output, hM.2.size, hM.2.block⟩
 clear hM hR HM H1 HR HO
 simp [results, Tryz.results154, go_sem, *]
theorem spoilt (g : Nat) (t : Value) (k : Int) (w : World) (hb : RBlk w g t k false) (cs : Array Value) :
   RBlk (((((w.setCell ⟨g, 0, none⟩ (.pointer (some ⟨g, 0, none⟩))).setCell ⟨g, 1, none⟩ (.slice none 0 0)).setCell ⟨g, 2, none⟩ (.int .i64 0)).setCell ⟨g, 3, none⟩ (.bool true)).alloc (.cells cs 208)) g (.slice none 0 0) 0 true /\
   w.grownBy (((((w.setCell ⟨g, 0, none⟩ (.pointer (some ⟨g, 0, none⟩))).setCell ⟨g, 1, none⟩ (.slice none 0 0)).setCell ⟨g, 2, none⟩ (.int .i64 0)).setCell ⟨g, 3, none⟩ (.bool true)).alloc (.cells cs 208)) (some g) := by
 have h4 := heap_set (heap_set (heap_set (heap_set hb 0 (.pointer (some ⟨g, 0, none⟩))) 1 (.slice none 0 0)) 2 (.int .i64 0)) 3 (.bool true)
 have hsz : ((((w.setCell ⟨g, 0, none⟩ (.pointer (some ⟨g, 0, none⟩))).setCell ⟨g, 1, none⟩ (.slice none 0 0)).setCell ⟨g, 2, none⟩ (.int .i64 0)).setCell ⟨g, 3, none⟩ (.bool true)).heap.size = w.heap.size := by simp [World.setCell]
 have hoth : ∀ j, j ≠ g -> ((((w.setCell ⟨g, 0, none⟩ (.pointer (some ⟨g, 0, none⟩))).setCell ⟨g, 1, none⟩ (.slice none 0 0)).setCell ⟨g, 2, none⟩ (.int .i64 0)).setCell ⟨g, 3, none⟩ (.bool true)).heap[j]? = w.heap[j]? := by
   intro j hj
   rw [Below.heap_setCell _ _ _ j hj, Below.heap_setCell _ _ _ j hj, Below.heap_setCell _ _ _ j hj, Below.heap_setCell _ _ _ j hj]
 have hlt := hb.lt
 have hgr : w.grownBy ((((w.setCell ⟨g, 0, none⟩ (.pointer (some ⟨g, 0, none⟩))).setCell ⟨g, 1, none⟩ (.slice none 0 0)).setCell ⟨g, 2, none⟩ (.int .i64 0)).setCell ⟨g, 3, none⟩ (.bool true)) (some g) := ⟨rfl, rfl, rfl, by rw [hsz]; exact Nat.le_refl _, fun j _ hne => hoth j (fun e => hne (by rw [e]))⟩
 revert h4 hsz hoth hgr
 generalize ((((w.setCell ⟨g, 0, none⟩ (.pointer (some ⟨g, 0, none⟩))).setCell ⟨g, 1, none⟩ (.slice none 0 0)).setCell ⟨g, 2, none⟩ (.int .i64 0)).setCell ⟨g, 3, none⟩ (.bool true)) = W
 intro h4 hsz hoth hgr
 refine ⟨?_, ?_⟩
 · have : (W.alloc (.cells cs 208)).heap[g]? = W.heap[g]? := Below.heap_alloc _ _ g (by omega)
   exact this.trans (h4.trans (by simp))
 · exact ⟨hgr.os, hgr.tape, hgr.output, by simp; omega, fun j hj hne => (Below.heap_alloc _ _ j (by omega)).trans (hgr.block j hj hne)⟩
set_option maxHeartbeats 1000000 in
theorem move_here_out (g : Nat) (a : Option Addr) (len cap : Nat) (k n : Int) (w : World) (hb : RBlk w g (.slice a len cap) k false) (hc : len <= cap) (hm : len <= 140737488355328) (hk : 0 <= k /\ k <= len) (hn : n < 0 ∨ (len : Int) < k + n) :
   Calls Tryz.prog 154 #[.pointer (some ⟨g, 0, none⟩), .int .u8 0, .int .i64 n] w fun e w' => e = .returned (.agg #[.slice none 0 0, .int .i64 0, .int .i64 0, .bool true]) /\
     Hid (RBlk w' g (.slice none 0 0) 0 true /\ w.grownBy w' (some g)) := by
 have HB : Hid (RBlk w g (.slice a len cap) k false) := hb
 have hg := hb.lt
 have c0 := hb.c0
 have c1 := hb.c1
 have c2 := hb.c2
 have c3 := hb.c3
 have f0 := hb.fz 0
 have f1 := hb.fz 1
 have f2 := hb.fz 2
 have f3 := hb.fz 3
 have hne := neq_ptr_same ⟨g, 0, none⟩
 clear hb
 have HN : Hid (n < 0 ∨ (len : Int) < k + n) := hn
 clear hn
 go_enter Tryz.func154, Tryz.ntmps154
 go_wp2_with fail
 refine (piece_out a len cap k n _ hm (by have := HN.out; omega)).mono ?_
 rintro e w' ⟨rfl, rfl⟩
 go_wp2_with fail
 have hM := spoilt g _ _ w HB.out #[.slice none 0 0, .int .i64 0, .int .i64 0, .bool true]
 exact bodyPost_ret (v := .agg #[.slice none 0 0, .int .i64 0, .int .i64 0, .bool true]) (by simp [results, Tryz.results154, go_sem]) rfl ⟨rfl, hM⟩
set_option maxHeartbeats 1000000 in
theorem move_isbad (g : Nat) (f n : Int) (t : Value) (k : Int) (w : World) (hb : RBlk w g t k true) :
   Calls Tryz.prog 154 #[.pointer (some ⟨g, 0, none⟩), .int .u8 f, .int .i64 n] w fun e w' => e = .returned (.agg #[.slice none 0 0, .int .i64 0, .int .i64 0, .bool true]) /\ Below w.heap.size w w' := by
 have hg := hb.lt
 have c0 := hb.c0
 have c3 := hb.c3
 have hne := neq_ptr_same ⟨g, 0, none⟩
 clear hb
 go_enter Tryz.func154, Tryz.ntmps154
 go_wp2
 exact bodyPost_ret (v := .agg #[.slice none 0 0, .int .i64 0, .int .i64 0, .bool true]) (by simp [results, Tryz.results154, go_sem]) rfl ⟨rfl, ((Below.refl _ _).alloc (Nat.le_refl _) _)⟩
end Go.Proofs.YtkjnbgekaifdfaaGreat
namespace Go.Proofs.YtkjnbgekaifdfaaGreat
open Go.ChangeShapes Go.WideShapes Go.ChangeAt Go.RowKit
attribute [local go_sem] view0 view1 view2 view3 slice_is_nil
theorem new_below (w : World) (o : Obj) : Below w.heap.size w (w.alloc o) := (Below.refl _ _).alloc (Nat.le_refl _) _
attribute [local go_sem] view0 view1 view2 view3
def RSt (w : World) (g : Nat) (a : Option Addr) (len cap : Nat) : Option Nat -> Prop
 | some k => RBlk w g (.slice a len cap) k false /\ k <= len
 | none => RBlk w g (.slice none 0 0) 0 true
def mv (len : Nat) (st : Option Nat) (n : Int) : Option Nat := match st with
 | some k => if 0 <= n /\ k + n <= len then some (k + n.toNat) else none
 | none => none
def tk (zs : List Int) (st : Option Nat) (n : Int) : List Int := match st with
 | some k => if 0 <= n /\ k + n <= zs.length then (zs.drop k).take n.toNat else []
 | none => []
def pos : Option Nat -> Int
 | some k => k
 | none => 0
def lft (len : Nat) : Option Nat -> Int
 | some k => (len : Int) - (k : Int)
 | none => 0
theorem mv_zero (len : Nat) (st : Option Nat) (h : ∀ k, st = some k -> k <= len) : mv len st 0 = st := by
 cases st with
 | none => rfl
 | some k => have := h k rfl; simp [mv]; omega
theorem tk_len (zs : List Int) (st : Option Nat) (n : Nat) : (tk zs st n).length <= n := by
 unfold tk
 split
 · split
   · simp; omega
   · simp
 · simp
theorem tk_bytes (zs : List Int) (st : Option Nat) (n : Int) (h : ∀ z ∈ zs, 0 <= z /\ z <= 255) : ∀ z ∈ tk zs st n, 0 <= z /\ z <= 255 := by
 unfold tk
 split
 · split
   · intro z hz; exact h z (List.mem_of_mem_drop (List.mem_of_mem_take hz))
   · simp
 · simp
theorem RSt.le {w : World} {g : Nat} {a : Option Addr} {len cap : Nat} {st : Option Nat} (h : RSt w g a len cap st) : ∀ k, st = some k -> k <= len := by
 rintro k rfl; exact h.2
theorem RSt.lt {w : World} {g : Nat} {a : Option Addr} {len cap : Nat} {st : Option Nat} (h : RSt w g a len cap st) : g < w.heap.size := by
 cases st with
 | none => exact RBlk.lt h
 | some k => exact RBlk.lt h.1
theorem RSt.same {w w' : World} {g : Nat} {a : Option Addr} {len cap : Nat} {st : Option Nat} (h : RSt w g a len cap st) (hb : w'.heap[g]? = w.heap[g]?) : RSt w' g a len cap st := by
 cases st with
 | none => exact RBlk.same h hb
 | some k => exact ⟨RBlk.same h.1 hb, h.2⟩
theorem below_grown {w w' : World} {row : Option Nat} (h : Below w.heap.size w w') : w.grownBy w' row := ⟨h.os, h.tape, h.output, h.size, fun k hk _ => h.block k hk⟩
theorem move_any (g : Nat) (a : Option Addr) (len cap : Nat) (zs : List Int) (st st' : Option Nat) (n : Int) (c : Nat) (w : World) (hs : RSt w g a len cap st) (hr : Rd w a zs) (hl : zs.length = len) (hc : len <= cap) (hm : len <= 140737488355328) (hd : a = none -> cap = 0) (ho : Off a g)
   (hst : mv len st n = st') (htk : (tk zs st n).length = c) :
   Calls Tryz.prog 154 #[.pointer (some ⟨g, 0, none⟩), .int .u8 0, .int .i64 n] w fun e w' => ∃ ov oc, e = .returned (.agg #[.slice ov c oc, .int .i64 (pos st'), .int .i64 (lft len st'), .bool st'.isNone]) /\
     Hid (Rd w' ov (tk zs st n) /\ (ov = none -> oc = 0) /\ RSt w' g a len cap st' /\ w.grownBy w' (some g)) := by
 subst hst; subst htk
 cases st with
 | none =>
   refine (move_isbad g 0 n _ _ w hs).mono ?_
   rintro e w' ⟨rfl, hb⟩
   exact ⟨none, 0, rfl, ⟨.inl rfl, by simp [tk]⟩, fun _ => rfl, RSt.same (st := none) hs (hb.block g (RBlk.lt hs)), below_grown hb⟩
 | some k =>
   by_cases h : 0 <= n /\ k + n <= len
   · obtain ⟨m, rfl⟩ := Int.eq_ofNat_of_zero_le h.1
     have hkm : k + m <= len := by omega
     have e1 : mv len (some k) m = some (k + m) := by simp only [mv]; rw [if_pos h]; rfl
     have e2 : tk zs (some k) m = (zs.drop k).take m := by simp only [tk]; rw [if_pos (by rw [hl]; exact h)]; rfl
     have e3 : ((zs.drop k).take m).length = m := by simp; omega
     rw [e1, e2, e3]
     refine (move_here g a len cap k m zs w hs.1 hr hl hc hm hkm ho).mono ?_
     rintro e w' ⟨ov, rfl, H⟩
     obtain ⟨h1, h2, h3, h4⟩ := H.out
     refine ⟨ov, cap - k, by simp [pos, lft], h1, fun e => by rw [hd (h2 e)]; omega, ⟨by simpa using h3, hkm⟩, h4⟩
   · have e1 : mv len (some k) n = none := by simp only [mv]; rw [if_neg h]
     have e2 : tk zs (some k) n = [] := by simp only [tk]; rw [if_neg (by rw [hl]; exact h)]
     rw [e1, e2]
     have hkl := hs.2
     refine (move_here_out g a len cap k n w hs.1 hc hm ⟨by omega, by omega⟩ (by omega)).mono ?_
     rintro e w' ⟨rfl, H⟩
     exact ⟨none, 0, rfl, ⟨.inl rfl, by simp⟩, fun _ => rfl, H.out.1, H.out.2⟩
theorem rbyte_any (g : Nat) (a : Option Addr) (len cap : Nat) (zs : List Int) (st : Option Nat) (w : World) (hs : RSt w g a len cap st) (hr : Rd w a zs) (hl : zs.length = len) (hc : len <= cap) (hm : len <= 140737488355328) (hd : a = none -> cap = 0) (ho : Off a g) :
   Calls Tryz.prog 153 #[.pointer (some ⟨g, 0, none⟩)] w fun e w' => e = .returned (.int .i64 (val (tk zs st 1))) /\ Hid (RSt w' g a len cap (mv len st 1) /\ w.grownBy w' (some g)) := by
 have H0 : Hid (RSt w g a len cap st /\ Rd w a zs /\ zs.length = len /\ (a = none -> cap = 0) /\ Off a g) := ⟨hs, hr, hl, hd, ho⟩
 clear hs hr hl hd ho
 obtain ⟨st', hst⟩ : ∃ x, mv len st 1 = x := ⟨_, rfl⟩
 obtain ⟨c, htk⟩ : ∃ x, (tk zs st 1).length = x := ⟨_, rfl⟩
 have hc4 : c <= 1 := by have : (tk zs st (1 : Int)).length <= 1 := tk_len zs st 1; omega
 have hv := val_small4 (tk zs st 1) (tk_bytes zs st 1 H0.out.2.1.2) (by omega)
 have HT : Hid (mv len st 1 = st' /\ (tk zs st 1).length = c) := ⟨hst, htk⟩
 clear hst htk
 rw [HT.out.1]
 go_enter Tryz.func153, Tryz.ntmps153
 go_wp2_with fail
 refine (move_any g a len cap zs st st' 1 c _ H0.out.1 H0.out.2.1 H0.out.2.2.1 hc hm H0.out.2.2.2.1 H0.out.2.2.2.2 HT.out.1 HT.out.2).mono ?_
 rintro e w1 ⟨ov, oc, rfl, H1⟩
 go_wp2_with fail
 refine (number_any ov c oc (tk zs st 1) _ H1.out.1 HT.out.2 (by omega)).mono ?_
 rintro e w2 ⟨rfl, rfl⟩
 go_wp2
 go_ret
 exact ⟨by simp, H1.out.2.2.1, H1.out.2.2.2⟩
theorem rtake_any (g : Nat) (a : Option Addr) (len cap : Nat) (zs : List Int) (st : Option Nat) (n : Int) (w : World) (hs : RSt w g a len cap st) (hr : Rd w a zs) (hl : zs.length = len) (hc : len <= cap) (hm : len <= 140737488355328) (hd : a = none -> cap = 0) (ho : Off a g) :
   Calls Tryz.prog 142 #[.pointer (some ⟨g, 0, none⟩), .int .i64 n] w fun e w' => ∃ v ys, e = .returned v /\ Hid (Own w.heap.size w' v (tk zs st n).length ys /\ ys.take (tk zs st n).length = tk zs st n /\ RSt w' g a len cap (mv len st n) /\ w.grownBy w' (some g)) := by
 have H0 : Hid (RSt w g a len cap st /\ Rd w a zs /\ zs.length = len /\ (a = none -> cap = 0) /\ Off a g) := ⟨hs, hr, hl, hd, ho⟩
 clear hs hr hl hd ho
 obtain ⟨st', hst⟩ : ∃ x, mv len st n = x := ⟨_, rfl⟩
 obtain ⟨c, htk⟩ : ∃ x, (tk zs st n).length = x := ⟨_, rfl⟩
 have HT : Hid (mv len st n = st' /\ (tk zs st n).length = c) := ⟨hst, htk⟩
 have hcl : c <= len := by
   have h1 := H0.out.2.2.1
   rw [<- htk]; unfold tk
   split
   · split
     · simp; omega
     · simp
   · simp
 clear hst htk
 rw [HT.out.1, HT.out.2]
 go_enter Tryz.func142, Tryz.ntmps142
 go_wp2_with fail
 refine (move_any g a len cap zs st st' n c _ H0.out.1 H0.out.2.1 H0.out.2.2.1 hc hm H0.out.2.2.2.1 H0.out.2.2.2.2 HT.out.1 HT.out.2).mono ?_
 rintro e w1 ⟨ov, oc, rfl, H1⟩
 cases ov with
 | none =>
   have ec : c = 0 := by
     rw [<- HT.out.2]
     rcases H1.out.1.1 with h | ⟨b, o, h, _⟩
     · rw [h]; rfl
     · cases h
   have eo : oc = 0 := H1.out.2.1 rfl
   subst ec; subst eo
   go_wp2_with fail
   refine (clone_none _).mono ?_
   rintro e w2 ⟨rfl, rfl⟩
   go_wp2
   go_ret
   have et : tk zs st n = [] := List.eq_nil_of_length_eq_zero HT.out.2
   exact ⟨_, [], rfl, .inl ⟨rfl, rfl, rfl⟩, by rw [et]; rfl, H1.out.2.2.1, H1.out.2.2.2⟩
 | some x =>
   have HX : Hid (Calls Tryz.prog 87 #[.slice (some x) c oc] w1 fun e w' => ∃ v ys, e = .returned v /\ Hid (Own w1.heap.size w' v c ys /\ ys.take c = tk zs st n /\ Below w1.heap.size w1 w')) := by
     have := clone_any x oc (tk zs st n) w1 H1.out.1 (by rw [HT.out.2]; omega)
     rw [HT.out.2] at this
     exact this
   go_wp2_with fail
   refine HX.out.mono ?_
   rintro e w2 ⟨v, ys, rfl, H2⟩
   go_wp2
   go_ret
   obtain ⟨p1, p2, p3⟩ := H2.out
   have hgs := H1.out.2.2.1.lt
   have hsz := H1.out.2.2.2.size
   refine ⟨v, ys, rfl, ?_, p2, H1.out.2.2.1.same (p3.block g hgs), ?_⟩
   · rcases p1 with h | ⟨g', h1, h2, h3⟩
     · exact .inl h
     · exact .inr ⟨g', h1, by omega, h3⟩
   · have hg := H1.out.2.2.2
     exact ⟨p3.os.trans hg.os, p3.tape.trans hg.tape, p3.output.trans hg.output, Nat.le_trans hg.size p3.size, fun j hj hne => (p3.block j (by omega)).trans (hg.block j hj hne)⟩
theorem rat_any (g : Nat) (a : Option Addr) (len cap : Nat) (zs : List Int) (st : Option Nat) (w : World) (hs : RSt w g a len cap st) (hr : Rd w a zs) (hl : zs.length = len) (hc : len <= cap) (hm : len <= 140737488355328) (hd : a = none -> cap = 0) (ho : Off a g) :
   Calls Tryz.prog 150 #[.pointer (some ⟨g, 0, none⟩)] w fun e w' => e = .returned (.int .i64 (pos st)) /\ Hid (RSt w' g a len cap st /\ w.grownBy w' (some g)) := by
 have H0 : Hid (RSt w g a len cap st /\ Rd w a zs /\ zs.length = len /\ (a = none -> cap = 0) /\ Off a g) := ⟨hs, hr, hl, hd, ho⟩
 clear hs hr hl hd ho
 go_enter Tryz.func150, Tryz.ntmps150
 go_wp2_with fail
 refine (move_any g a len cap zs st st 0 _ _ H0.out.1 H0.out.2.1 H0.out.2.2.1 hc hm H0.out.2.2.2.1 H0.out.2.2.2.2 (mv_zero len st H0.out.1.le) rfl).mono ?_
 rintro e w1 ⟨ov, oc, rfl, H1⟩
 go_wp2
 go_ret
 exact ⟨rfl, H1.out.2.2.1, H1.out.2.2.2⟩
theorem rbad_any (g : Nat) (a : Option Addr) (len cap : Nat) (zs : List Int) (st : Option Nat) (w : World) (hs : RSt w g a len cap st) (hr : Rd w a zs) (hl : zs.length = len) (hc : len <= cap) (hm : len <= 140737488355328) (hd : a = none -> cap = 0) (ho : Off a g) :
   Calls Tryz.prog 144 #[.pointer (some ⟨g, 0, none⟩)] w fun e w' => e = .returned (.bool st.isNone) /\ Hid (RSt w' g a len cap st /\ w.grownBy w' (some g)) := by
 have H0 : Hid (RSt w g a len cap st /\ Rd w a zs /\ zs.length = len /\ (a = none -> cap = 0) /\ Off a g) := ⟨hs, hr, hl, hd, ho⟩
 clear hs hr hl hd ho
 go_enter Tryz.func144, Tryz.ntmps144
 go_wp2_with fail
 refine (move_any g a len cap zs st st 0 _ _ H0.out.1 H0.out.2.1 H0.out.2.2.1 hc hm H0.out.2.2.2.1 H0.out.2.2.2.2 (mv_zero len st H0.out.1.le) rfl).mono ?_
 rintro e w1 ⟨ov, oc, rfl, H1⟩
 go_wp2
 go_ret
 exact ⟨rfl, H1.out.2.2.1, H1.out.2.2.2⟩
set_option maxHeartbeats 400000 in
theorem new_any (x : Addr) (cap : Nat) (zs : List Int) (w : World) (hr : Rd w (some x) zs) (hm : zs.length <= 140737488355328) :
   Calls Tryz.prog 138 #[.slice (some x) zs.length cap] w fun e w' => ∃ gr a' ca, e = .returned (.pointer (some ⟨gr, 0, none⟩)) /\ Hid (w.heap.size <= gr /\ RBlk w' gr (.slice a' zs.length ca) 0 false /\ Rd w' a' zs /\ zs.length <= ca /\ (a' = none -> ca = 0) /\ Off a' gr /\ (∀ y o, a' = some ⟨y, o, none⟩ -> w.heap.size <= y /\ y < w'.heap.size) /\ Below w.heap.size w w') := by
 have HX : Hid (Calls Tryz.prog 87 #[.slice (some x) zs.length cap] w fun e w' => ∃ v ys, e = .returned v /\ Hid (Own w.heap.size w' v zs.length ys /\ ys.take zs.length = zs /\ Below w.heap.size w w')) := clone_any x cap zs w hr hm
 clear hr hm
 generalize hl : zs.length = len at *
 have HL : Hid (zs.length = len) := hl
 clear hl
 go_enter Tryz.func138, Tryz.ntmps138
 go_wp2_with fail
 refine HX.out.mono ?_
 rintro e w1 ⟨v, ys, rfl, H1⟩
 obtain ⟨a', rfl, hoa⟩ := H1.out.1.addr
 have HO : Hid (OwnA w.heap.size w1 a' len ys /\ ys.take len = zs /\ Below w.heap.size w w1) := ⟨hoa, H1.out.2.1, H1.out.2.2⟩
 clear hoa H1
 generalize hy : ys.length = yl
 have HY : Hid (ys.length = yl) := hy
 clear hy
 go_wp2
 go_ret
 obtain ⟨q1, q2, q3⟩ := HO.out
 have hnb := new_below w1 (.cells #[.pointer (some ⟨w1.heap.size, 0, none⟩), .slice a' len yl, .int .i64 0, .bool false] 204)
 have hrd := q1.rdTake len
 rw [q2] at hrd
 refine ⟨w1.heap.size, a', yl, rfl, q3.size, heap_alloc_new _ _, hrd.below hnb, ?_, ?_, ?_, ?_, q3.trans (hnb.mono q3.size)⟩
 · have := q1.le.1; rw [HY.out] at this; exact this
 · intro e; have := q1.nil e; rw [HY.out] at this; exact this
 · rintro y o rfl
   have := (q1.lt y rfl).2
   omega
 · rintro y o rfl
   have h1 := (q1.lt y rfl)
   have h2 := hnb.size
   exact ⟨h1.1, by omega⟩
end Go.Proofs.YtkjnbgekaifdfaaGreat
namespace Go.Proofs.YtkjnbgekaifdfaaGreat
open Go.ChangeShapes Go.WideShapes Go.ChangeAt Go.RowKit
set_option maxHeartbeats 1000000 in
theorem move_front (g : Nat) (a : Option Addr) (len cap n : Nat) (k : Int) (zs : List Int) (w : World) (hb : RBlk w g (.slice a len cap) k false) (hr : Rd w a zs) (hl : zs.length = len) (hc : len <= cap) (hm : len <= 140737488355328) (hn : n <= len) (ho : Off a g) :
   Calls Tryz.prog 154 #[.pointer (some ⟨g, 0, none⟩), .int .u8 1, .int .i64 n] w fun e w' => ∃ ov, e = .returned (.agg #[.slice ov n cap, .int .i64 (n : Int), .int .i64 ((len : Int) - (n : Int)), .bool false]) /\
     Hid (Rd w' ov (zs.take n) /\ (ov = none -> a = none) /\ RBlk w' g (.slice a len cap) (n : Int) false /\ w.grownBy w' (some g)) := by
 have HB : Hid (RBlk w g (.slice a len cap) k false) := hb
 have HR : Hid (Rd w a zs) := hr
 have HL : Hid (zs.length = len) := hl
 have HO : Hid (Off a g) := ho
 have hg := hb.lt
 have c0 := hb.c0
 have c1 := hb.c1
 have c2 := hb.c2
 have c3 := hb.c3
 have f2 := hb.fz 2
 have hne := neq_ptr_same ⟨g, 0, none⟩
 clear hb hr hl ho
 go_enter Tryz.func154, Tryz.ntmps154
 go_wp2_with fail
 refine (piece_in a len cap 0 n zs _ (HR.out.below ((Below.refl _ _).alloc (Nat.le_refl _) _)) HL.out hc hm (by omega)).mono ?_
 rintro e w' ⟨⟨ov, rfl, H1⟩, rfl⟩
 go_wp2_with fail
 have hw : IntKind.i64.wrap ((len : Int) - (n : Int)) = (len : Int) - (n : Int) := by rw [IntKind.wrap_i64]; omega
 have hgw : ¬ w.heap.size = g := by omega
 obtain ⟨m1, m2, m3, m4⟩ := moved g (.slice a len cap) k (n : Int) w HB.out #[.slice none 0 0, .int .i64 0, .int .i64 0, .bool false]
 obtain ⟨v0, v1, v2, v3, v4⟩ := cells4 m2
 have d1 := m1.c1
 have d2 := m1.c2
 have HM : Hid (RBlk ((w.setCell ⟨g, 2, none⟩ (.int .i64 (n : Int))).alloc (.cells #[.slice none 0 0, .int .i64 0, .int .i64 0, .bool false] 208)) g (.slice a len cap) (n : Int) false /\ w.grownBy ((w.setCell ⟨g, 2, none⟩ (.int .i64 (n : Int))).alloc (.cells #[.slice none 0 0, .int .i64 0, .int .i64 0, .bool false] 208)) (some g)) := ⟨m1, m3⟩
 clear m1 m2 m3 c0 c1 c2 c3 f2 hne
 generalize (w.setCell ⟨g, 2, none⟩ (.int .i64 (n : Int))).alloc (.cells #[.slice none 0 0, .int .i64 0, .int .i64 0, .bool false] 208) = W1 at *
 generalize hs : w.heap.size = s at *
 have HS : Hid (w.heap.size = s) := hs
 clear hs
 have v4a := v4 0
 have v4b := v4 1
 have v4c := v4 2
 have v4d := v4 3
 clear v4
 go_region_held3 (fun W => W.cell? ⟨g, 1, none⟩ = some (.slice a len cap) /\ W.cell? ⟨g, 2, none⟩ = some (.int .i64 (n : Int))) (go_keep) (fail)
 go_wp2
 obtain ⟨h1, h2⟩ := H1.out
 have hM := moved_end HM.out HS.out (by omega) (.slice ov n cap) (.int .i64 (n : Int)) (.int .i64 ((len : Int) - (n : Int))) (.bool false)
 have hR := h1 _ (HR.out.grown hM.2 HO.out)
 clear h1
 refine bodyPost_ret (v := .agg #[.slice ov n cap, .int .i64 (n : Int), .int .i64 ((len : Int) - (n : Int)), .bool false]) ?_ rfl ⟨ov, rfl, hR, h2, hM.1, hM.2.os, hM.2.tape, hM.2.output, hM.2.size, hM.2.block⟩
 clear hM hR HM H1 HR HO
 simp [results, Tryz.results154, go_sem, *]
set_option maxHeartbeats 1000000 in
theorem move_front_out (g : Nat) (a : Option Addr) (len cap : Nat) (k n : Int) (w : World) (hb : RBlk w g (.slice a len cap) k false) (hc : len <= cap) (hm : len <= 140737488355328) (hk : 0 <= k /\ k <= len) (hn : n < 0 ∨ (len : Int) < n) :
   Calls Tryz.prog 154 #[.pointer (some ⟨g, 0, none⟩), .int .u8 1, .int .i64 n] w fun e w' => e = .returned (.agg #[.slice none 0 0, .int .i64 0, .int .i64 0, .bool true]) /\
     Hid (RBlk w' g (.slice none 0 0) 0 true /\ w.grownBy w' (some g)) := by
 have HB : Hid (RBlk w g (.slice a len cap) k false) := hb
 have hg := hb.lt
 have c0 := hb.c0
 have c1 := hb.c1
 have c2 := hb.c2
 have c3 := hb.c3
 have f0 := hb.fz 0
 have f1 := hb.fz 1
 have f2 := hb.fz 2
 have f3 := hb.fz 3
 have hne := neq_ptr_same ⟨g, 0, none⟩
 clear hb
 have HN : Hid (n < 0 ∨ (len : Int) < n) := hn
 clear hn
 go_enter Tryz.func154, Tryz.ntmps154
 go_wp2_with fail
 refine (piece_out a len cap 0 n _ hm (by have := HN.out; omega)).mono ?_
 rintro e w' ⟨rfl, rfl⟩
 go_wp2_with fail
 have hM := spoilt g _ _ w HB.out #[.slice none 0 0, .int .i64 0, .int .i64 0, .bool true]
 exact bodyPost_ret (v := .agg #[.slice none 0 0, .int .i64 0, .int .i64 0, .bool true]) (by simp [results, Tryz.results154, go_sem]) rfl ⟨rfl, hM⟩
attribute [local go_sem] view0 view1 view2 view3
def jm (len : Nat) (st : Option Nat) (n : Int) : Option Nat := match st with
 | some _ => if 0 <= n /\ n <= len then some n.toNat else none
 | none => none
theorem jumpto_any (g : Nat) (a : Option Addr) (len cap : Nat) (zs : List Int) (st : Option Nat) (n : Int) (w : World) (hs : RSt w g a len cap st) (hr : Rd w a zs) (hl : zs.length = len) (hc : len <= cap) (hm : len <= 140737488355328) (ho : Off a g) :
   Calls Tryz.prog 154 #[.pointer (some ⟨g, 0, none⟩), .int .u8 1, .int .i64 n] w fun e w' => ∃ v, e = .returned v /\ Hid (RSt w' g a len cap (jm len st n) /\ w.grownBy w' (some g)) := by
 cases st with
 | none =>
   refine (move_isbad g 1 n _ _ w hs).mono ?_
   rintro e w' ⟨rfl, hb⟩
   exact ⟨_, rfl, RSt.same (st := none) hs (hb.block g (RBlk.lt hs)), below_grown hb⟩
 | some k =>
   by_cases h : 0 <= n /\ n <= len
   · obtain ⟨m, rfl⟩ := Int.eq_ofNat_of_zero_le h.1
     have hm' : m <= len := by omega
     have e1 : jm len (some k) m = some m := by simp only [jm]; rw [if_pos h]; rfl
     rw [e1]
     refine (move_front g a len cap m k zs w hs.1 hr hl hc hm hm' ho).mono ?_
     rintro e w' ⟨ov, rfl, H⟩
     exact ⟨_, rfl, ⟨H.out.2.2.1, hm'⟩, H.out.2.2.2⟩
   · have e1 : jm len (some k) n = none := by simp only [jm]; rw [if_neg h]
     rw [e1]
     have hkl := hs.2
     refine (move_front_out g a len cap k n w hs.1 hc hm ⟨by omega, by omega⟩ (by omega)).mono ?_
     rintro e w' ⟨rfl, H⟩
     exact ⟨_, rfl, H.out.1, H.out.2⟩
theorem ru16_any (g : Nat) (a : Option Addr) (len cap : Nat) (zs : List Int) (st : Option Nat) (w : World) (hs : RSt w g a len cap st) (hr : Rd w a zs) (hl : zs.length = len) (hc : len <= cap) (hm : len <= 140737488355328) (hd : a = none -> cap = 0) (ho : Off a g) :
   Calls Tryz.prog 158 #[.pointer (some ⟨g, 0, none⟩)] w fun e w' => e = .returned (.int .i64 (val (tk zs st 2))) /\ Hid (RSt w' g a len cap (mv len st 2) /\ w.grownBy w' (some g)) := by
 have H0 : Hid (RSt w g a len cap st /\ Rd w a zs /\ zs.length = len /\ (a = none -> cap = 0) /\ Off a g) := ⟨hs, hr, hl, hd, ho⟩
 clear hs hr hl hd ho
 obtain ⟨st', hst⟩ : ∃ x, mv len st 2 = x := ⟨_, rfl⟩
 obtain ⟨c, htk⟩ : ∃ x, (tk zs st 2).length = x := ⟨_, rfl⟩
 have hc4 : c <= 2 := by have : (tk zs st (2 : Int)).length <= 2 := tk_len zs st 2; omega
 have hv := val_small4 (tk zs st 2) (tk_bytes zs st 2 H0.out.2.1.2) (by omega)
 have HT : Hid (mv len st 2 = st' /\ (tk zs st 2).length = c) := ⟨hst, htk⟩
 clear hst htk
 rw [HT.out.1]
 go_enter Tryz.func158, Tryz.ntmps158
 go_wp2_with fail
 refine (move_any g a len cap zs st st' 2 c _ H0.out.1 H0.out.2.1 H0.out.2.2.1 hc hm H0.out.2.2.2.1 H0.out.2.2.2.2 HT.out.1 HT.out.2).mono ?_
 rintro e w1 ⟨ov, oc, rfl, H1⟩
 go_wp2_with fail
 refine (number_any ov c oc (tk zs st 2) _ H1.out.1 HT.out.2 (by omega)).mono ?_
 rintro e w2 ⟨rfl, rfl⟩
 go_wp2
 go_ret
 exact ⟨by simp, H1.out.2.2.1, H1.out.2.2.2⟩
theorem ru32_any (g : Nat) (a : Option Addr) (len cap : Nat) (zs : List Int) (st : Option Nat) (w : World) (hs : RSt w g a len cap st) (hr : Rd w a zs) (hl : zs.length = len) (hc : len <= cap) (hm : len <= 140737488355328) (hd : a = none -> cap = 0) (ho : Off a g) :
   Calls Tryz.prog 159 #[.pointer (some ⟨g, 0, none⟩)] w fun e w' => e = .returned (.int .u32 (val (tk zs st 4))) /\ Hid (RSt w' g a len cap (mv len st 4) /\ w.grownBy w' (some g)) := by
 have H0 : Hid (RSt w g a len cap st /\ Rd w a zs /\ zs.length = len /\ (a = none -> cap = 0) /\ Off a g) := ⟨hs, hr, hl, hd, ho⟩
 clear hs hr hl hd ho
 obtain ⟨st', hst⟩ : ∃ x, mv len st 4 = x := ⟨_, rfl⟩
 obtain ⟨c, htk⟩ : ∃ x, (tk zs st 4).length = x := ⟨_, rfl⟩
 have hc4 : c <= 4 := by have : (tk zs st (4 : Int)).length <= 4 := tk_len zs st 4; omega
 have hv := val_small4 (tk zs st 4) (tk_bytes zs st 4 H0.out.2.1.2) (by omega)
 have HT : Hid (mv len st 4 = st' /\ (tk zs st 4).length = c) := ⟨hst, htk⟩
 clear hst htk
 rw [HT.out.1]
 go_enter Tryz.func159, Tryz.ntmps159
 go_wp2_with fail
 refine (move_any g a len cap zs st st' 4 c _ H0.out.1 H0.out.2.1 H0.out.2.2.1 hc hm H0.out.2.2.2.1 H0.out.2.2.2.2 HT.out.1 HT.out.2).mono ?_
 rintro e w1 ⟨ov, oc, rfl, H1⟩
 go_wp2_with fail
 refine (number_any ov c oc (tk zs st 4) _ H1.out.1 HT.out.2 (by omega)).mono ?_
 rintro e w2 ⟨rfl, rfl⟩
 go_wp2
 go_ret
 exact ⟨by simp, H1.out.2.2.1, H1.out.2.2.2⟩
theorem rjump_any (g : Nat) (a : Option Addr) (len cap : Nat) (zs : List Int) (st : Option Nat) (n : Int) (w : World) (hs : RSt w g a len cap st) (hr : Rd w a zs) (hl : zs.length = len) (hc : len <= cap) (hm : len <= 140737488355328) (hd : a = none -> cap = 0) (ho : Off a g) :
   Calls Tryz.prog 151 #[.pointer (some ⟨g, 0, none⟩), .int .i64 n] w fun e w' => e = .returned (.tuple #[]) /\ Hid (RSt w' g a len cap (jm len st n) /\ w.grownBy w' (some g)) := by
 have H0 : Hid (RSt w g a len cap st /\ Rd w a zs /\ zs.length = len /\ (a = none -> cap = 0) /\ Off a g) := ⟨hs, hr, hl, hd, ho⟩
 clear hs hr hl hd ho
 go_enter Tryz.func151, Tryz.ntmps151
 go_wp2_with fail
 refine (jumpto_any g a len cap zs st n _ H0.out.1 H0.out.2.1 H0.out.2.2.1 hc hm H0.out.2.2.2.2).mono ?_
 rintro e w1 ⟨v, rfl, H1⟩
 go_wp2
 go_end0
 exact ⟨rfl, H1⟩
theorem rleft_any (g : Nat) (a : Option Addr) (len cap : Nat) (zs : List Int) (st : Option Nat) (w : World) (hs : RSt w g a len cap st) (hr : Rd w a zs) (hl : zs.length = len) (hc : len <= cap) (hm : len <= 140737488355328) (hd : a = none -> cap = 0) (ho : Off a g) :
   Calls Tryz.prog 143 #[.pointer (some ⟨g, 0, none⟩)] w fun e w' => e = .returned (.int .i64 (lft len st)) /\ Hid (RSt w' g a len cap st /\ w.grownBy w' (some g)) := by
 have H0 : Hid (RSt w g a len cap st /\ Rd w a zs /\ zs.length = len /\ (a = none -> cap = 0) /\ Off a g) := ⟨hs, hr, hl, hd, ho⟩
 clear hs hr hl hd ho
 go_enter Tryz.func143, Tryz.ntmps143
 go_wp2_with fail
 refine (move_any g a len cap zs st st 0 _ _ H0.out.1 H0.out.2.1 H0.out.2.2.1 hc hm H0.out.2.2.2.1 H0.out.2.2.2.2 (mv_zero len st H0.out.1.le) rfl).mono ?_
 rintro e w1 ⟨ov, oc, rfl, H1⟩
 go_wp2
 go_ret
 exact ⟨rfl, H1.out.2.2.1, H1.out.2.2.2⟩
set_option maxHeartbeats 400000 in
theorem new_none (w : World) :
   Calls Tryz.prog 138 #[.slice none 0 0] w fun e w' => ∃ gr a' ca, e = .returned (.pointer (some ⟨gr, 0, none⟩)) /\ Hid (w.heap.size <= gr /\ RBlk w' gr (.slice a' 0 ca) 0 false /\ Rd w' a' [] /\ 0 <= ca /\ (a' = none -> ca = 0) /\ Off a' gr /\ (∀ y o, a' = some ⟨y, o, none⟩ -> w.heap.size <= y /\ y < w'.heap.size) /\ Below w.heap.size w w') := by
 go_enter Tryz.func138, Tryz.ntmps138
 go_wp2_with fail
 refine (clone_none _).mono ?_
 rintro e w1 ⟨rfl, rfl⟩
 go_wp2
 go_ret
 have hnb := new_below w1 (.cells #[.pointer (some ⟨w1.heap.size, 0, none⟩), .slice none 0 0, .int .i64 0, .bool false] 204)
 exact ⟨w1.heap.size, none, 0, rfl, Nat.le_refl _, heap_alloc_new _ _, ⟨.inl rfl, by simp⟩, Nat.le_refl _, fun _ => rfl, (by rintro _ _ ⟨⟩), (by rintro _ _ ⟨⟩), hnb⟩
end Go.Proofs.YtkjnbgekaifdfaaGreat
