/- The reader and the document's reader, side by side: what keeps them in step. -/
import Derived.Test.YtglkjiebcmmglaaRef2
namespace Go.Proofs.Ytglkjiebcmmglaa
open Go.ChangeShapes Go.WideShapes Go.ChangeAt Go.RowKit
set_option linter.unusedVariables false
set_option linter.unusedSimpArgs false

/-- Where the two readers and their bytes lie. -/
structure Env (B N gr gm : Nat) (a b : Option Addr) (len ca cb : Nat) (zs : List Int) : Prop where
  hl : zs.length = len
  hca : len ≤ ca
  hcb : len ≤ cb
  hm : len ≤ 140737488355328
  hda : a = none → ca = 0
  hdb : b = none → cb = 0
  oar : Off a gr
  oam : Off a gm
  obr : Off b gr
  obm : Off b gm
  ne : gr ≠ gm
  gr1 : gr < N
  gm1 : gm < N
  bgr : B ≤ gr
  bgm : B ≤ gm
  an : ∀ x o, a = some ⟨x, o, none⟩ → x < N
  bn : ∀ x o, b = some ⟨x, o, none⟩ → x < N
/-- Both stand in the same state. -/
structure Sim (N gr gm : Nat) (a b : Option Addr) (len ca cb : Nat) (zs : List Int) (st : Option Nat) (w : World) : Prop where
  sz : N ≤ w.heap.size
  r : RSt w gr a len ca st
  m : MSt w gm b len cb st
  ra : Rd w a zs
  rb : Rd w b zs

section
variable {B N gr gm : Nat} {a b : Option Addr} {len ca cb : Nat} {zs : List Int} {st st' : Option Nat} {w w' : World}

theorem Sim.keep (E : Env B N gr gm a b len ca cb zs) (h : Sim N gr gm a b len ca cb zs st w) (hs : w.heap.size ≤ w'.heap.size) (hb : ∀ j, j < N → w'.heap[j]? = w.heap[j]?) : Sim N gr gm a b len ca cb zs st w' :=
  ⟨Nat.le_trans h.sz hs, h.r.same (hb gr E.gr1), h.m.same (hb gm E.gm1), h.ra.of_blocks hs (fun x o e => hb x (E.an x o e)), h.rb.of_blocks hs (fun x o e => hb x (E.bn x o e))⟩
theorem Sim.below (E : Env B N gr gm a b len ca cb zs) (h : Sim N gr gm a b len ca cb zs st w) (hb : Below w.heap.size w w') : Sim N gr gm a b len ca cb zs st w' :=
  h.keep E hb.size fun j hj => hb.block j (Nat.lt_of_lt_of_le hj h.sz)
/-- The reader has moved; the document's has not yet. -/
theorem Sim.stepR (E : Env B N gr gm a b len ca cb zs) (h : Sim N gr gm a b len ca cb zs st w) (hg : w.grownBy w' (some gr)) : MSt w' gm b len cb st ∧ Rd w' a zs ∧ Rd w' b zs ∧ N ≤ w'.heap.size :=
  ⟨h.m.same (hg.block gm (Nat.lt_of_lt_of_le E.gm1 h.sz) (fun e => E.ne (Option.some.inj e).symm)), h.ra.grown hg E.oar, h.rb.grown hg E.obr, Nat.le_trans h.sz hg.size⟩
theorem Sim.stepM (E : Env B N gr gm a b len ca cb zs) (hr : RSt w gr a len ca st') (ra : Rd w a zs) (rb : Rd w b zs) (hn : N ≤ w.heap.size) (hg : w.grownBy w' (some gm)) (hm : MSt w' gm b len cb st') : Sim N gr gm a b len ca cb zs st' w' :=
  ⟨Nat.le_trans hn hg.size, hr.same (hg.block gr (Nat.lt_of_lt_of_le E.gr1 hn) (fun e => E.ne (Option.some.inj e))), hm, ra.grown hg E.oam, rb.grown hg E.obm⟩
theorem below_of_grown {w0 : World} (hb : Below B w0 w) (h0 : B ≤ w0.heap.size) {g : Nat} (hg : w.grownBy w' (some g)) (hB : B ≤ g) : Below B w0 w' :=
  hb.grown hg (Nat.le_trans h0 hb.size) (fun k e => by have := Option.some.inj e; omega)
end

section
variable {B N gr gm : Nat} {a b : Option Addr} {len ca cb : Nat} {zs : List Int} {st : Option Nat} {w : World}

set_option maxHeartbeats 1000000 in
theorem asked_num (E : Env B N gr gm a b len ca cb zs) (hs : Sim N gr gm a b len ca cb zs st w) (κ n : Int) (hB : B ≤ w.heap.size) (hk : κ = 0 ∨ κ = 1 ∨ κ = 2) :
    Calls Try.prog 29 #[.pointer (some ⟨gr, 0, none⟩), .pointer (some ⟨gm, 0, none⟩), .agg #[.int .u8 κ, .int .i64 n]] w fun e w' => e = .returned (.bool true) ∧ Hid ((∃ st', Sim N gr gm a b len ca cb zs st' w') ∧ Below B w w') := by
  have HE : Hid (Env B N gr gm a b len ca cb zs) := E
  have HS : Hid (∀ o, Sim N gr gm a b len ca cb zs st (w.alloc o) ∧ Below B w (w.alloc o)) := fun o => ⟨hs.below E (new_below w o), (new_below w o).mono hB⟩
  have HV : Hid (∀ n, ∀ z ∈ tk zs st n, 0 ≤ z ∧ z ≤ 255) := fun n => tk_bytes zs st n hs.ra.2
  clear E hs
  rcases hk with rfl | rfl | rfl
  · have hv := val_small4 (tk zs st 1) (HV.out 1) (by have : (tk zs st (1 : Int)).length ≤ 1 := tk_len zs st 1; omega)
    go_enter Try.func29, Try.ntmps29
    go_wp2_with fail
    refine (rbyte_any gr a len ca zs st _ (HS.out _).1.r (HS.out _).1.ra HE.out.hl HE.out.hca HE.out.hm HE.out.hda HE.out.oar).mono ?_
    rintro e w1 ⟨rfl, H1⟩
    have H1' := (HS.out (.cells #[.int .u8 0, .int .i64 n] 53)).1.stepR HE.out H1.out.2
    have HH : Hid (MSt w1 gm b len cb st ∧ Rd w1 a zs ∧ Rd w1 b zs ∧ N ≤ w1.heap.size) := H1'
    clear H1'
    go_wp2_with fail
    refine (refnum_any gm b len cb zs st 1 (by omega) (by omega) _ HH.out.1 HH.out.2.2.1 HE.out.hl HE.out.hcb HE.out.hm HE.out.hdb HE.out.obm).mono ?_
    rintro e w2 ⟨rfl, H2⟩
    go_wp2
    go_ret
    exact ⟨rfl, ⟨_, Sim.stepM HE.out H1.out.1 HH.out.2.1 HH.out.2.2.1 HH.out.2.2.2 H2.out.2 H2.out.1⟩, below_of_grown (below_of_grown (HS.out _).2 hB H1.out.2 HE.out.bgr) hB H2.out.2 HE.out.bgm⟩
  · have hv := val_small4 (tk zs st 2) (HV.out 2) (by have : (tk zs st (2 : Int)).length ≤ 2 := tk_len zs st 2; omega)
    go_enter Try.func29, Try.ntmps29
    go_wp2_with fail
    refine (ru16_any gr a len ca zs st _ (HS.out _).1.r (HS.out _).1.ra HE.out.hl HE.out.hca HE.out.hm HE.out.hda HE.out.oar).mono ?_
    rintro e w1 ⟨rfl, H1⟩
    have H1' := (HS.out (.cells #[.int .u8 1, .int .i64 n] 53)).1.stepR HE.out H1.out.2
    have HH : Hid (MSt w1 gm b len cb st ∧ Rd w1 a zs ∧ Rd w1 b zs ∧ N ≤ w1.heap.size) := H1'
    clear H1'
    go_wp2_with fail
    refine (refnum_any gm b len cb zs st 2 (by omega) (by omega) _ HH.out.1 HH.out.2.2.1 HE.out.hl HE.out.hcb HE.out.hm HE.out.hdb HE.out.obm).mono ?_
    rintro e w2 ⟨rfl, H2⟩
    go_wp2
    go_ret
    exact ⟨rfl, ⟨_, Sim.stepM HE.out H1.out.1 HH.out.2.1 HH.out.2.2.1 HH.out.2.2.2 H2.out.2 H2.out.1⟩, below_of_grown (below_of_grown (HS.out _).2 hB H1.out.2 HE.out.bgr) hB H2.out.2 HE.out.bgm⟩
  · have hv := val_small4 (tk zs st 4) (HV.out 4) (by have : (tk zs st (4 : Int)).length ≤ 4 := tk_len zs st 4; omega)
    go_enter Try.func29, Try.ntmps29
    go_wp2_with fail
    refine (ru32_any gr a len ca zs st _ (HS.out _).1.r (HS.out _).1.ra HE.out.hl HE.out.hca HE.out.hm HE.out.hda HE.out.oar).mono ?_
    rintro e w1 ⟨rfl, H1⟩
    have H1' := (HS.out (.cells #[.int .u8 2, .int .i64 n] 53)).1.stepR HE.out H1.out.2
    have HH : Hid (MSt w1 gm b len cb st ∧ Rd w1 a zs ∧ Rd w1 b zs ∧ N ≤ w1.heap.size) := H1'
    clear H1'
    go_wp2_with fail
    refine (refnum_any gm b len cb zs st 4 (by omega) (by omega) _ HH.out.1 HH.out.2.2.1 HE.out.hl HE.out.hcb HE.out.hm HE.out.hdb HE.out.obm).mono ?_
    rintro e w2 ⟨rfl, H2⟩
    go_wp2
    go_ret
    exact ⟨rfl, ⟨_, Sim.stepM HE.out H1.out.1 HH.out.2.1 HH.out.2.2.1 HH.out.2.2.2 H2.out.2 H2.out.1⟩, below_of_grown (below_of_grown (HS.out _).2 hB H1.out.2 HE.out.bgr) hB H2.out.2 HE.out.bgm⟩

set_option maxHeartbeats 1000000 in
theorem asked_take (E : Env B N gr gm a b len ca cb zs) (hs : Sim N gr gm a b len ca cb zs st w) (n : Int) (hB : B ≤ w.heap.size) :
    Calls Try.prog 29 #[.pointer (some ⟨gr, 0, none⟩), .pointer (some ⟨gm, 0, none⟩), .agg #[.int .u8 3, .int .i64 n]] w fun e w' => e = .returned (.bool true) ∧ Hid ((∃ st', Sim N gr gm a b len ca cb zs st' w') ∧ Below B w w') := by
  have HE : Hid (Env B N gr gm a b len ca cb zs) := E
  have HS : Hid (∀ o, Sim N gr gm a b len ca cb zs st (w.alloc o) ∧ Below B w (w.alloc o)) := fun o => ⟨hs.below E (new_below w o), (new_below w o).mono hB⟩
  have HNW : Hid (N ≤ w.heap.size) := hs.sz
  clear E hs
  go_enter Try.func29, Try.ntmps29
  go_wp2_with fail
  refine (rtake_any gr a len ca zs st n _ (HS.out _).1.r (HS.out _).1.ra HE.out.hl HE.out.hca HE.out.hm HE.out.hda HE.out.oar).mono ?_
  rintro e w1 ⟨v, ys, rfl, H1⟩
  have H1' := (HS.out (.cells #[.int .u8 3, .int .i64 n] 53)).1.stepR HE.out H1.out.2.2.2
  have HH : Hid (MSt w1 gm b len cb st ∧ Rd w1 a zs ∧ Rd w1 b zs ∧ N ≤ w1.heap.size) := H1'
  clear H1'
  obtain ⟨ax, rfl, hox⟩ := H1.out.1.addr
  have hcellq : w1.cell? ⟨w.heap.size, 1, none⟩ = some (.int .i64 n) := by
    have hg := H1.out.2.2.2
    have hne : w.heap.size ≠ gr := by have := HE.out.gr1; have := HNW.out; omega
    rw [World.cell?_of_block (w := w.alloc (.cells #[.int .u8 3, .int .i64 n] 53)) (a := ⟨w.heap.size, 1, none⟩) (hg.block w.heap.size (by simp) (fun e => hne (Option.some.inj e)))]
    simp [go_sem]
  obtain ⟨c, hc⟩ : ∃ c, (tk zs st n).length = c := ⟨_, rfl⟩
  rw [hc] at hox
  have HX : Hid (OwnA (w.alloc (.cells #[.int .u8 3, .int .i64 n] 53)).heap.size w1 ax c ys ∧ ys.take c = tk zs st n ∧ (tk zs st n).length = c) := ⟨hox, by have := H1.out.2.1; rw [hc] at this; exact this, hc⟩
  rw [hc]
  clear hox hc
  generalize hy : ys.length = yl
  have HYL : Hid (ys.length = yl) := hy
  clear hy
  go_wp2_with fail
  refine (reftake_any gm b len cb zs st n _ HH.out.1 HH.out.2.2.1 HE.out.hl HE.out.hcb HE.out.hm HE.out.hdb HE.out.obm).mono ?_
  rintro e w2 ⟨v2, ys2, rfl, H2⟩
  obtain ⟨ax2, rfl, hox2⟩ := H2.out.1.addr
  have hgne : blk ax ≠ some gm := by
    intro e
    have h1 := (HX.out.1.lt gm e).1
    have h2 := HE.out.gm1
    have h3 := HNW.out
    simp at h1; omega
  have HX2 : Hid (OwnA (w.alloc (.cells #[.int .u8 3, .int .i64 n] 53)).heap.size w2 ax c ys) := HX.out.1.keep fun g e hg => H2.out.2.2.2.block g hg (fun e' => hgne (by rw [e, e']))
  have HZ : Hid (∀ c2, (tk zs st n).length = c2 → Calls Try.prog 16 #[.slice ax c yl, .slice ax2 c2 ys2.length] w2 fun e w' => e = .returned (.bool true) ∧ w' = w2) := by
    rintro c2 rfl
    have r1 := HX2.out.rdTake c
    rw [HX.out.2.1] at r1
    have r2 := hox2.rdTake (tk zs st n).length
    rw [H2.out.2.1] at r2
    have := same_yes ax ax2 c yl ys2.length (tk zs st n) w2 r1 r2 HX.out.2.2
    rw [HX.out.2.2]
    exact this
  clear hox2 hgne
  go_wp2_with fail
  refine (HZ.out _ rfl).mono ?_
  rintro e w3 ⟨rfl, rfl⟩
  have HO : Hid (Calls Try.prog 28 #[.slice ax c yl] w3 fun e w' => e = .returned (.tuple #[]) ∧ Hid (w3.grownBy w' (blk ax) ∧ w'.heap.size = w3.heap.size)) := by
    have := over_any _ ax c ys w3 HX2.out
    rw [HYL.out] at this
    refine this.mono ?_
    rintro e w' ⟨rfl, h1, h2, h3⟩
    exact ⟨rfl, h2, h3⟩
  go_wp2_with fail
  refine HO.out.mono ?_
  rintro e w4 ⟨rfl, H4⟩
  go_wp2
  go_ret
  have hsim : Sim N gr gm a b len ca cb zs (mv len st n) w3 := Sim.stepM HE.out H1.out.2.2.1 HH.out.2.1 HH.out.2.2.1 HH.out.2.2.2 H2.out.2.2.2 H2.out.2.2.1
  have hrow : ∀ g, blk ax = some g → N ≤ g ∧ B ≤ g := by
    intro g e
    have h1 := (HX.out.1.lt g e).1
    have h2 := HNW.out
    simp at h1
    exact ⟨by omega, by omega⟩
  refine ⟨rfl, ⟨_, hsim.keep HE.out H4.out.1.size fun j hj => H4.out.1.block j (Nat.lt_of_lt_of_le hj hsim.sz) (fun e => by have := (hrow j e.symm).1; omega)⟩, ?_⟩
  have hb3 := below_of_grown (below_of_grown (HS.out (.cells #[.int .u8 3, .int .i64 n] 53)).2 hB H1.out.2.2.2 HE.out.bgr) hB H2.out.2.2.2 HE.out.bgm
  exact hb3.grown H4.out.1 (Nat.le_trans hB hb3.size) (fun g e => (hrow g e).2)
end
end Go.Proofs.Ytglkjiebcmmglaa
