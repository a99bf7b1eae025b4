/- What is asked last of both readers: place, bytes left, whether bad. -/
import Derived.Test.YtglkjiebcmmglaaSim
namespace Go.Proofs.Ytglkjiebcmmglaa
open Go.ChangeShapes Go.WideShapes Go.ChangeAt Go.RowKit
set_option linter.unusedVariables false
set_option linter.unusedSimpArgs false
section
variable {B N gr gm : Nat} {a b : Option Addr} {len ca cb : Nat} {zs : List Int} {st : Option Nat} {w : World}

/-- The cells of the document's reader in a state. -/
theorem MSt.cells {w : World} {g : Nat} {b : Option Addr} {len cap : Nat} {st : Option Nat} (h : MSt w g b len cap st) :
    ∃ (tb : Option Addr) (tl tc : Nat), (tl : Int) - pos st = lft len st ∧ tl ≤ len ∧ ∀ W, MSt W g b len cap st → W.cell? ⟨g, 0, none⟩ = some (.slice tb tl tc) ∧ W.cell? ⟨g, 1, none⟩ = some (.int .i64 (pos st)) ∧ W.cell? ⟨g, 2, none⟩ = some (.bool st.isNone) := by
  cases st with
  | none => exact ⟨none, 0, 0, by simp [pos, lft], Nat.zero_le _, fun W hW => ⟨MBlk.c0 hW, MBlk.c1 hW, MBlk.c2 hW⟩⟩
  | some k => exact ⟨b, len, cap, by simp [pos, lft], Nat.le_refl _, fun W hW => ⟨MBlk.c0 hW.1, MBlk.c1 hW.1, MBlk.c2 hW.1⟩⟩

/-- The three calls, each in a world in which both readers stand in step. -/
theorem asks (E : Env B N gr gm a b len ca cb zs) (w0 : World) (hB : B ≤ w0.heap.size) (f : Nat) (r : Value) (tb : Option Addr) (tl tc : Nat)
    (hc : ∀ W, MSt W gm b len cb st → W.cell? ⟨gm, 0, none⟩ = some (.slice tb tl tc) ∧ W.cell? ⟨gm, 1, none⟩ = some (.int .i64 (pos st)) ∧ W.cell? ⟨gm, 2, none⟩ = some (.bool st.isNone))
    (hf : ∀ W, RSt W gr a len ca st → Rd W a zs → Calls Try.prog f #[.pointer (some ⟨gr, 0, none⟩)] W fun e w' => e = .returned r ∧ Hid (RSt w' gr a len ca st ∧ W.grownBy w' (some gr))) :
    ∀ W, Sim N gr gm a b len ca cb zs st W ∧ Below B w0 W → Calls Try.prog f #[.pointer (some ⟨gr, 0, none⟩)] W fun e w' => e = .returned r ∧ w'.cell? ⟨gm, 0, none⟩ = some (.slice tb tl tc) ∧ w'.cell? ⟨gm, 1, none⟩ = some (.int .i64 (pos st)) ∧ w'.cell? ⟨gm, 2, none⟩ = some (.bool st.isNone) ∧ Hid (Sim N gr gm a b len ca cb zs st w' ∧ Below B w0 w') := by
  intro W hW
  refine (hf W hW.1.r hW.1.ra).mono ?_
  rintro e w' ⟨rfl, H⟩
  obtain ⟨h1, h2⟩ := H.out
  obtain ⟨q1, q2, q3, q4⟩ := hW.1.stepR E h2
  obtain ⟨k0, k1, k2⟩ := hc w' q1
  exact ⟨rfl, k0, k1, k2, ⟨q4, h1, q1, q2, q3⟩, below_of_grown hW.2 hB h2 E.bgr⟩

set_option maxHeartbeats 1000000 in
theorem asked_bare (E : Env B N gr gm a b len ca cb zs) (hs : Sim N gr gm a b len ca cb zs st w) (κ n : Int) (hB : B ≤ w.heap.size) (hk : ¬ κ = 0 ∧ ¬ κ = 1 ∧ ¬ κ = 2 ∧ ¬ κ = 3 ∧ ¬ κ = 4) :
    Calls Try.prog 29 #[.pointer (some ⟨gr, 0, none⟩), .pointer (some ⟨gm, 0, none⟩), .agg #[.int .u8 κ, .int .i64 n]] w fun e w' => e = .returned (.bool true) ∧ Hid ((∃ st', Sim N gr gm a b len ca cb zs st' w') ∧ Below B w w') := by
  have HE : Hid (Env B N gr gm a b len ca cb zs) := E
  have HS : Hid (∀ o, Sim N gr gm a b len ca cb zs st (w.alloc o) ∧ Below B w (w.alloc o)) := fun o => ⟨hs.below E (new_below w o), (new_below w o).mono hB⟩
  obtain ⟨tb, tl, tc, hq, htl, hcs⟩ := hs.m.cells
  have HA : Hid (∀ W, Sim N gr gm a b len ca cb zs st W ∧ Below B w W → Calls Try.prog 35 #[.pointer (some ⟨gr, 0, none⟩)] W fun e w' => e = .returned (.int .i64 (pos st)) ∧ w'.cell? ⟨gm, 0, none⟩ = some (.slice tb tl tc) ∧ w'.cell? ⟨gm, 1, none⟩ = some (.int .i64 (pos st)) ∧ w'.cell? ⟨gm, 2, none⟩ = some (.bool st.isNone) ∧ Hid (Sim N gr gm a b len ca cb zs st w' ∧ Below B w w')) :=
    asks E w hB 35 _ tb tl tc hcs fun W h1 h2 => rat_any gr a len ca zs st W h1 h2 E.hl E.hca E.hm E.hda E.oar
  have HL : Hid (∀ W, Sim N gr gm a b len ca cb zs st W ∧ Below B w W → Calls Try.prog 36 #[.pointer (some ⟨gr, 0, none⟩)] W fun e w' => e = .returned (.int .i64 (lft len st)) ∧ w'.cell? ⟨gm, 0, none⟩ = some (.slice tb tl tc) ∧ w'.cell? ⟨gm, 1, none⟩ = some (.int .i64 (pos st)) ∧ w'.cell? ⟨gm, 2, none⟩ = some (.bool st.isNone) ∧ Hid (Sim N gr gm a b len ca cb zs st w' ∧ Below B w w')) :=
    asks E w hB 36 _ tb tl tc hcs fun W h1 h2 => rleft_any gr a len ca zs st W h1 h2 E.hl E.hca E.hm E.hda E.oar
  have HBd : Hid (∀ W, Sim N gr gm a b len ca cb zs st W ∧ Below B w W → Calls Try.prog 37 #[.pointer (some ⟨gr, 0, none⟩)] W fun e w' => e = .returned (.bool st.isNone) ∧ w'.cell? ⟨gm, 0, none⟩ = some (.slice tb tl tc) ∧ w'.cell? ⟨gm, 1, none⟩ = some (.int .i64 (pos st)) ∧ w'.cell? ⟨gm, 2, none⟩ = some (.bool st.isNone) ∧ Hid (Sim N gr gm a b len ca cb zs st w' ∧ Below B w w')) :=
    asks E w hB 37 _ tb tl tc hcs fun W h1 h2 => rbad_any gr a len ca zs st W h1 h2 E.hl E.hca E.hm E.hda E.oar
  have hlen := E.hm
  have hpos : 0 ≤ pos st ∧ pos st ≤ len := by
    cases hst : st with
    | none => exact ⟨Int.le_refl _, by simp [pos]⟩
    | some k => have := hs.m.le k hst; exact ⟨by simp [pos], by simp [pos]; omega⟩
  have hw : IntKind.i64.wrap ((tl : Int) - pos st) = lft len st := by rw [hq.symm, IntKind.wrap_i64]; omega
  have hgm : gm < w.heap.size := Nat.lt_of_lt_of_le E.gm1 hs.sz
  obtain ⟨k0, k1, k2⟩ := hcs (w.alloc (.cells #[.int .u8 κ, .int .i64 n] 53)) (hs.below E (new_below w _)).m
  have kk0 : (κ == 0) = false := by simp; omega
  have kk1 : (κ == 1) = false := by simp; omega
  have kk2 : (κ == 2) = false := by simp; omega
  have kk3 : (κ == 3) = false := by simp; omega
  have kk4 : (κ == 4) = false := by simp; omega
  have HK : Hid (∀ W, MSt W gm b len cb st → W.cell? ⟨gm, 0, none⟩ = some (.slice tb tl tc) ∧ W.cell? ⟨gm, 1, none⟩ = some (.int .i64 (pos st)) ∧ W.cell? ⟨gm, 2, none⟩ = some (.bool st.isNone)) := hcs
  have HQ : Hid (∃ st', st' = st) := ⟨_, rfl⟩
  have HSW : Hid (Sim N gr gm a b len ca cb zs st (w.alloc (.cells #[.int .u8 κ, .int .i64 n] 53)) ∧ Below B w (w.alloc (.cells #[.int .u8 κ, .int .i64 n] 53))) := HS.out _
  clear E hs hq htl hcs hlen hpos hk HS
  generalize pos st = p at *
  generalize lft len st = q at *
  generalize st.isNone = bd at *
  go_enter Try.func29, Try.ntmps29
  go_wp2_with fail
  generalize w.alloc (.cells #[.int .u8 κ, .int .i64 n] 53) = W1 at *
  go_region_held3 (fun W => W.cell? ⟨gm, 0, none⟩ = some (.slice tb tl tc) ∧ W.cell? ⟨gm, 1, none⟩ = some (.int .i64 p) ∧ W.cell? ⟨gm, 2, none⟩ = some (.bool bd)) (go_keep) (first
    | (go_at_call 35; refine (HA.out _ ?_).mono ?_; exact ⟨HSW.out.1.below HE.out (Below.refl _ _).drew, HSW.out.2.drew⟩; rintro e w2 ⟨rfl, a0, a1, a2, H2⟩)
    | (go_at_call 36; refine (HL.out _ H2.out).mono ?_; rintro e w3 ⟨rfl, b0, b1, b2, H3⟩)
    | (go_at_call 37; refine (HBd.out _ H3.out).mono ?_; rintro e w4 ⟨rfl, d0, d1, d2, H4⟩))
  go_wp2
  go_ret
  exact ⟨rfl, ⟨st, H4.out.1⟩, H4.out.2⟩

set_option maxHeartbeats 1000000 in
theorem asked_jump (E : Env B N gr gm a b len ca cb zs) (hs : Sim N gr gm a b len ca cb zs st w) (n : Int) (hB : B ≤ w.heap.size) :
    Calls Try.prog 29 #[.pointer (some ⟨gr, 0, none⟩), .pointer (some ⟨gm, 0, none⟩), .agg #[.int .u8 4, .int .i64 n]] w fun e w' => e = .returned (.bool true) ∧ Hid ((∃ st', Sim N gr gm a b len ca cb zs st' w') ∧ Below B w w') := by
  have HE : Hid (Env B N gr gm a b len ca cb zs) := E
  have HS : Hid (∀ o, Sim N gr gm a b len ca cb zs st (w.alloc o) ∧ Below B w (w.alloc o)) := fun o => ⟨hs.below E (new_below w o), (new_below w o).mono hB⟩
  have HNW : Hid (N ≤ w.heap.size) := hs.sz
  clear E hs
  go_enter Try.func29, Try.ntmps29
  go_wp2_with fail
  refine (rjump_any gr a len ca zs st n _ (HS.out _).1.r (HS.out _).1.ra HE.out.hl HE.out.hca HE.out.hm HE.out.hda HE.out.oar).mono ?_
  rintro e w1 ⟨rfl, H1⟩
  have H1' := (HS.out (.cells #[.int .u8 4, .int .i64 n] 53)).1.stepR HE.out H1.out.2
  have HH : Hid (MSt w1 gm b len cb st ∧ Rd w1 a zs ∧ Rd w1 b zs ∧ N ≤ w1.heap.size) := H1'
  clear H1'
  have hcellq : w1.cell? ⟨w.heap.size, 1, none⟩ = some (.int .i64 n) := by
    have hg := H1.out.2
    have hne : w.heap.size ≠ gr := by have := HE.out.gr1; have := HNW.out; omega
    rw [World.cell?_of_block (w := w.alloc (.cells #[.int .u8 4, .int .i64 n] 53)) (a := ⟨w.heap.size, 1, none⟩) (hg.block w.heap.size (by simp) (fun e => hne (Option.some.inj e)))]
    simp [go_sem]
  go_wp2_with fail
  refine (refjump_any gm b len cb st n _ HH.out.1).mono ?_
  rintro e w2 ⟨rfl, H2⟩
  clear hcellq
  obtain ⟨st', hst'⟩ : ∃ x, jm len st n = x := ⟨_, rfl⟩
  have HSW : Hid (Sim N gr gm a b len ca cb zs st' w2 ∧ Below B w w2) := by
    rw [← hst']
    exact ⟨Sim.stepM HE.out H1.out.1 HH.out.2.1 HH.out.2.2.1 HH.out.2.2.2 H2.out.2 H2.out.1, below_of_grown (below_of_grown (HS.out _).2 hB H1.out.2 HE.out.bgr) hB H2.out.2 HE.out.bgm⟩
  clear hst' H1 H2 HH HS HNW
  obtain ⟨tb, tl, tc, hq, htl, hcs⟩ := HSW.out.1.m.cells
  have HA : Hid (∀ W, Sim N gr gm a b len ca cb zs st' W ∧ Below B w W → Calls Try.prog 35 #[.pointer (some ⟨gr, 0, none⟩)] W fun e w' => e = .returned (.int .i64 (pos st')) ∧ w'.cell? ⟨gm, 0, none⟩ = some (.slice tb tl tc) ∧ w'.cell? ⟨gm, 1, none⟩ = some (.int .i64 (pos st')) ∧ w'.cell? ⟨gm, 2, none⟩ = some (.bool st'.isNone) ∧ Hid (Sim N gr gm a b len ca cb zs st' w' ∧ Below B w w')) :=
    asks HE.out w hB 35 _ tb tl tc hcs fun W h1 h2 => rat_any gr a len ca zs st' W h1 h2 HE.out.hl HE.out.hca HE.out.hm HE.out.hda HE.out.oar
  have HL : Hid (∀ W, Sim N gr gm a b len ca cb zs st' W ∧ Below B w W → Calls Try.prog 36 #[.pointer (some ⟨gr, 0, none⟩)] W fun e w' => e = .returned (.int .i64 (lft len st')) ∧ w'.cell? ⟨gm, 0, none⟩ = some (.slice tb tl tc) ∧ w'.cell? ⟨gm, 1, none⟩ = some (.int .i64 (pos st')) ∧ w'.cell? ⟨gm, 2, none⟩ = some (.bool st'.isNone) ∧ Hid (Sim N gr gm a b len ca cb zs st' w' ∧ Below B w w')) :=
    asks HE.out w hB 36 _ tb tl tc hcs fun W h1 h2 => rleft_any gr a len ca zs st' W h1 h2 HE.out.hl HE.out.hca HE.out.hm HE.out.hda HE.out.oar
  have HBd : Hid (∀ W, Sim N gr gm a b len ca cb zs st' W ∧ Below B w W → Calls Try.prog 37 #[.pointer (some ⟨gr, 0, none⟩)] W fun e w' => e = .returned (.bool st'.isNone) ∧ w'.cell? ⟨gm, 0, none⟩ = some (.slice tb tl tc) ∧ w'.cell? ⟨gm, 1, none⟩ = some (.int .i64 (pos st')) ∧ w'.cell? ⟨gm, 2, none⟩ = some (.bool st'.isNone) ∧ Hid (Sim N gr gm a b len ca cb zs st' w' ∧ Below B w w')) :=
    asks HE.out w hB 37 _ tb tl tc hcs fun W h1 h2 => rbad_any gr a len ca zs st' W h1 h2 HE.out.hl HE.out.hca HE.out.hm HE.out.hda HE.out.oar
  have hlen := HE.out.hm
  have hpos : 0 ≤ pos st' ∧ pos st' ≤ len := by
    cases hst : st' with
    | none => exact ⟨Int.le_refl _, by simp [pos]⟩
    | some k => have := HSW.out.1.m.le k hst; exact ⟨by simp [pos], by simp [pos]; omega⟩
  have hw : IntKind.i64.wrap ((tl : Int) - pos st') = lft len st' := by rw [hq.symm, IntKind.wrap_i64]; omega
  obtain ⟨k0, k1, k2⟩ := hcs w2 HSW.out.1.m
  clear hq htl hcs hlen hpos
  generalize pos st' = p at *
  generalize lft len st' = q at *
  generalize st'.isNone = bd at *
  go_wp2_with fail
  go_region_held3 (fun W => W.cell? ⟨gm, 0, none⟩ = some (.slice tb tl tc) ∧ W.cell? ⟨gm, 1, none⟩ = some (.int .i64 p) ∧ W.cell? ⟨gm, 2, none⟩ = some (.bool bd)) (go_keep) (first
    | (go_at_call 35; refine (HA.out _ ?_).mono ?_; exact ⟨HSW.out.1.below HE.out (Below.refl _ _).drew, HSW.out.2.drew⟩; rintro e w3 ⟨rfl, a0, a1, a2, H3⟩)
    | (go_at_call 36; refine (HL.out _ H3.out).mono ?_; rintro e w4 ⟨rfl, b0, b1, b2, H4⟩)
    | (go_at_call 37; refine (HBd.out _ H4.out).mono ?_; rintro e w5 ⟨rfl, d0, d1, d2, H5⟩))
  go_wp2
  go_ret
  exact ⟨rfl, ⟨st', H5.out.1⟩, H5.out.2⟩

theorem asked_any (E : Env B N gr gm a b len ca cb zs) (hs : Sim N gr gm a b len ca cb zs st w) (κ n : Int) (hB : B ≤ w.heap.size) :
    Calls Try.prog 29 #[.pointer (some ⟨gr, 0, none⟩), .pointer (some ⟨gm, 0, none⟩), .agg #[.int .u8 κ, .int .i64 n]] w fun e w' => e = .returned (.bool true) ∧ Hid ((∃ st', Sim N gr gm a b len ca cb zs st' w') ∧ Below B w w') := by
  by_cases h : κ = 0 ∨ κ = 1 ∨ κ = 2
  · exact asked_num E hs κ n hB h
  by_cases h3 : κ = 3
  · subst h3; exact asked_take E hs n hB
  by_cases h4 : κ = 4
  · subst h4; exact asked_jump E hs n hB
  exact asked_bare E hs κ n hB ⟨by omega, by omega, by omega, h3, h4⟩
end
end Go.Proofs.Ytglkjiebcmmglaa
