/- The statement's function about a reader and any calls returns true and leaves what was there. -/
import Derived.Test.YtglkjiebcmmglaaTail
namespace Go.Proofs.Ytglkjiebcmmglaa
open Go.ChangeShapes Go.WideShapes Go.ChangeAt Go.RowKit
set_option linter.unusedVariables false
set_option linter.unusedSimpArgs false

/-- Calls that can be read. -/
def Asks (w : World) (ac : Option Addr) (lc : Nat) (K M : Nat → Int) : Prop :=
  lc = 0 ∨ ∃ b o, ac = some ⟨b, o, none⟩ ∧ b < w.heap.size ∧ ∀ i, i < lc → w.cell? ⟨b, o + i * 2, none⟩ = some (.int .u8 (K i)) ∧ w.cell? ⟨b, o + i * 2 + 1, none⟩ = some (.int .i64 (M i))

set_option maxHeartbeats 400000 in
theorem new_any (x : Addr) (cap : Nat) (zs : List Int) (w : World) (hr : Rd w (some x) zs) (hm : zs.length ≤ 140737488355328) :
    Calls Try.prog 26 #[.slice (some x) zs.length cap] w fun e w' => ∃ gr a' ca, e = .returned (.pointer (some ⟨gr, 0, none⟩)) ∧ Hid (w.heap.size ≤ gr ∧ RBlk w' gr (.slice a' zs.length ca) 0 false ∧ Rd w' a' zs ∧ zs.length ≤ ca ∧ (a' = none → ca = 0) ∧ Off a' gr ∧ (∀ y o, a' = some ⟨y, o, none⟩ → w.heap.size ≤ y ∧ y < w'.heap.size) ∧ Below w.heap.size w w') := by
  have HX : Hid (Calls Try.prog 48 #[.slice (some x) zs.length cap] w fun e w' => ∃ v ys, e = .returned v ∧ Hid (Own w.heap.size w' v zs.length ys ∧ ys.take zs.length = zs ∧ Below w.heap.size w w')) := clone_any x cap zs w hr hm
  clear hr hm
  generalize hl : zs.length = len at *
  have HL : Hid (zs.length = len) := hl
  clear hl
  go_enter Try.func26, Try.ntmps26
  go_wp2_with fail
  refine HX.out.mono ?_
  rintro e w1 ⟨v, ys, rfl, H1⟩
  obtain ⟨a', rfl, hoa⟩ := H1.out.1.addr
  have HO : Hid (OwnA w.heap.size w1 a' len ys ∧ ys.take len = zs ∧ Below w.heap.size w w1) := ⟨hoa, H1.out.2.1, H1.out.2.2⟩
  clear hoa H1
  generalize hy : ys.length = yl
  have HY : Hid (ys.length = yl) := hy
  clear hy
  go_wp2
  go_ret
  obtain ⟨q1, q2, q3⟩ := HO.out
  have hnb := new_below w1 (.cells #[.pointer (some ⟨w1.heap.size, 0, none⟩), .slice a' len yl, .int .i64 0, .bool false] 56)
  have hrd := q1.rdTake len
  rw [q2] at hrd
  refine ⟨w1.heap.size, a', yl, rfl, q3.size, heap_alloc_new _ _, hrd.below hnb, ?_, ?_, ?_, ?_, q3.trans (hnb.mono q3.size)⟩
  · have := q1.le.1; rw [HY.out] at this; exact this
  · intro e; have := q1.nil e; rw [HY.out] at this; exact this
  · rintro y o rfl
    have := (q1.lt y rfl).2
    omega
  · rintro y o rfl
    have h1 := (q1.lt y rfl)
    have h2 := hnb.size
    exact ⟨h1.1, by omega⟩

theorem Sim.other {B N gr gm : Nat} {a b : Option Addr} {len ca cb : Nat} {zs : List Int} {st : Option Nat} {w w' : World} {g0 : Nat} (E : Env B N gr gm a b len ca cb zs) (h : Sim N gr gm a b len ca cb zs st w)
    (hg : w.grownBy w' (some g0)) (h1 : gr ≠ g0) (h2 : gm ≠ g0) (h3 : Off a g0) (h4 : Off b g0) : Sim N gr gm a b len ca cb zs st w' :=
  ⟨Nat.le_trans h.sz hg.size, h.r.same (hg.block gr (Nat.lt_of_lt_of_le E.gr1 h.sz) (fun e => h1 (Option.some.inj e))), h.m.same (hg.block gm (Nat.lt_of_lt_of_le E.gm1 h.sz) (fun e => h2 (Option.some.inj e))), h.ra.grown hg h3, h.rb.grown hg h4⟩

set_option maxHeartbeats 1000000 in
theorem reader_walk (a : Option Addr) (len cap : Nat) (zs : List Int) (ac : Option Addr) (lc cc : Nat) (K M : Nat → Int) (w : World) (hr : Rd w a zs) (hl : zs.length = len) (hc : len ≤ cap) (hm : cap ≤ 140737488351232) (hd : a = none → cap = 0) (hq : Asks w ac lc K M) (hlc : lc ≤ 9223372036854775807) :
    Calls Try.prog 5 #[.slice a len cap, .slice ac lc cc] w fun e w' => e = .returned (.bool true) ∧ Below w.heap.size w w' := by
  by_cases h60 : 60 < lc
  · have h60' : (60 : Int) < (lc : Int) := by omega
    clear hr hd hq hl
    go_enter Try.func5, Try.ntmps5
    go_wp2
    go_ret
    exact ⟨rfl, Below.refl _ _⟩
  have h60' : ¬ (60 : Int) < (lc : Int) := by omega
  have HR : Hid (Rd w a zs) := hr
  have HD : Hid (a = none → cap = 0) := hd
  have HL : Hid (zs.length = len) := hl
  have HQ : Hid (Asks w ac lc K M) := hq
  have HX : Hid (Calls Try.prog 8 #[.slice a len cap] w fun e w' => e = .returned (.slice (some ⟨w.heap.size, 0, none⟩) len (len + 3)) ∧ Hid (Blk w' w.heap.size (lent zs 3) ∧ w'.heap.size = w.heap.size + 1 ∧ Below w.heap.size w w')) := by
    have := lent_any a cap zs w hr hd (by omega)
    rw [hl] at this
    exact this
  have HN : Hid (∀ W, Rd W (some ⟨w.heap.size, 0, none⟩) zs → Calls Try.prog 26 #[.slice (some ⟨w.heap.size, 0, none⟩) len (len + 3)] W fun e w' => ∃ gr a' ca, e = .returned (.pointer (some ⟨gr, 0, none⟩)) ∧ Hid (W.heap.size ≤ gr ∧ RBlk w' gr (.slice a' len ca) 0 false ∧ Rd w' a' zs ∧ len ≤ ca ∧ (a' = none → ca = 0) ∧ Off a' gr ∧ (∀ y o, a' = some ⟨y, o, none⟩ → W.heap.size ≤ y ∧ y < w'.heap.size) ∧ Below W.heap.size W w')) := by
    intro W h
    have := new_any ⟨w.heap.size, 0, none⟩ (len + 3) zs W h (by omega)
    rw [hl] at this
    exact this
  have HC : Hid (∀ W, Rd W a zs → Calls Try.prog 27 #[.slice a len cap] W fun e w' => ∃ b' cb ys, e = .returned (.slice b' len cb) ∧ Hid (OwnA W.heap.size w' b' len ys ∧ ys.take len = zs ∧ ys.length = cb ∧ Below W.heap.size W w')) := by
    intro W h
    have := copy_any a cap zs W h hd (by omega)
    rw [hl] at this
    refine this.mono ?_
    rintro e w' ⟨v, ys, rfl, h1, h2, h3⟩
    obtain ⟨b', rfl, h4⟩ := h1.addr
    exact ⟨b', _, ys, rfl, h4, h2, rfl, h3⟩
  clear hr hd hl hq
  go_enter Try.func5, Try.ntmps5
  go_wp2_with fail
  refine HX.out.mono ?_
  rintro e w1 ⟨rfl, H1⟩
  go_wp2_with fail
  refine (HN.out _ ?_).mono ?_
  · have := H1.out.1.rd zs.length
    rw [lent_take] at this
    exact this
  rintro e w2 ⟨gr, a', ca, rfl, H2⟩
  go_wp2_with fail
  refine (HC.out _ ((HR.out.below H1.out.2.2).below H2.out.2.2.2.2.2.2.2)).mono ?_
  rintro e w3 ⟨b', cb, ys, rfl, H3⟩
  obtain ⟨p1, p2, p3⟩ := H1.out
  obtain ⟨q1, q2, q3, q4, q5, q6, q7, q8⟩ := H2.out
  obtain ⟨r1, r2, r3, r4⟩ := H3.out
  have hgr2 := q2.lt
  have hs2 := q8.size
  have hs3 := r4.size
  have hnb := new_below w3 (.cells #[.slice b' len cb, .int .i64 0, .bool false] 49)
  have HE : Hid (Env w.heap.size (w3.heap.size + 1) gr w3.heap.size a' b' len ca cb zs) := by
    refine ⟨HL.out, q4, by have := r1.le.1; omega, by omega, q5, fun e => by rw [← r3]; exact r1.nil e, q6, ?_, ?_, ?_, by omega, by omega, by omega, by omega, by omega, ?_, ?_⟩
    · rintro y o e; have := (q7 y o e).2; omega
    · rintro y o rfl; have := (r1.lt y rfl).1; omega
    · rintro y o rfl; have := (r1.lt y rfl).2; omega
    · rintro y o e; have := (q7 y o e).2; omega
    · rintro y o rfl; have := (r1.lt y rfl).2; omega
  have hrb : Rd w3 b' zs := by have := r1.rdTake len; rw [r2] at this; exact this
  have HS : Hid (Sim (w3.heap.size + 1) gr w3.heap.size a' b' len ca cb zs (some 0) (w3.alloc (.cells #[.slice b' len cb, .int .i64 0, .bool false] 49))) := by
    refine ⟨by simp, ⟨(q2.same (r4.block gr hgr2)).same (Below.heap_alloc _ _ gr (by omega)), Nat.zero_le _⟩, ⟨heap_alloc_new _ _, Nat.zero_le _⟩, (q3.below r4).below hnb, hrb.below hnb⟩
  have HI : Hid (Blk (w3.alloc (.cells #[.slice b' len cb, .int .i64 0, .bool false] 49)) w.heap.size (lent zs 3) ∧ Rd (w3.alloc (.cells #[.slice b' len cb, .int .i64 0, .bool false] 49)) a zs ∧ Below w.heap.size w (w3.alloc (.cells #[.slice b' len cb, .int .i64 0, .bool false] 49))) := by
    refine ⟨((p1.below q8).below r4).below hnb, (((HR.out.below p3).below q8).below r4).below hnb, ?_⟩
    exact ((p3.trans (q8.mono p3.size)).trans (r4.mono (Nat.le_trans p3.size q8.size))).trans (hnb.mono (Nat.le_trans p3.size (Nat.le_trans q8.size r4.size)))
  have HG : Hid (gr ≠ w.heap.size ∧ w3.heap.size ≠ w.heap.size ∧ Off a' w.heap.size ∧ Off b' w.heap.size) := by
    refine ⟨by omega, by omega, ?_, ?_⟩
    · rintro y o e; have := (q7 y o e).1; omega
    · rintro y o rfl; have := (r1.lt y rfl).1; omega
  clear p1 p2 p3 q1 q2 q3 q4 q5 q6 q7 q8 r1 r2 r3 r4 hgr2 hs2 hs3 hnb hrb H1 H2 H3 HN HC HX
  go_wp2_with fail
  refine (kept_yes w.heap.size a cap len zs _ HL.out HI.out.1 HI.out.2.1 HD.out (by omega) hc).mono ?_
  rintro e w5 ⟨rfl, hb5⟩
  have HS5 : Hid (Sim (w3.heap.size + 1) gr w3.heap.size a' b' len ca cb zs (some 0) w5) := HS.out.below HE.out hb5
  have HO : Hid (Calls Try.prog 28 #[.slice (some ⟨w.heap.size, 0, none⟩) len (len + 3)] w5 fun e w' => e = .returned (.tuple #[]) ∧ Hid (w5.grownBy w' (some w.heap.size))) := by
    have h3 : (lent zs 3).length = len + 3 := by rw [lent_len _ _ (Nat.le_refl _), HL.out]
    have := over_blk w.heap.size len (lent zs 3) w5 (HI.out.1.below hb5) (by omega) (by simp only [maxLen]; omega)
    rw [h3] at this
    refine this.mono ?_
    rintro e w' ⟨rfl, _, h2, _⟩
    exact ⟨rfl, h2⟩
  have HB5 : Hid (Below w.heap.size w w5) := HI.out.2.2.trans (hb5.mono HI.out.2.2.size)
  clear hb5 HI HS
  go_wp2_with fail
  refine HO.out.mono ?_
  rintro e w6 ⟨rfl, H6⟩
  have HS6 : Hid (∃ st, Sim (w3.heap.size + 1) gr w3.heap.size a' b' len ca cb zs st w6) := ⟨_, HS5.out.other HE.out H6.out HG.out.1 HG.out.2.1 HG.out.2.2.1 HG.out.2.2.2⟩
  have HB6 : Hid (Below w.heap.size w w6) := below_of_grown HB5.out (Nat.le_refl _) H6.out (Nat.le_refl _)
  clear HS5 HB5 HO H6 HG
  generalize w3.heap.size = gm at *
  go_wp2_with fail
  go_loopw [8] (fun x wr => ∃ i : Nat, i ≤ lc ∧ x = .int .i64 i ∧ Hid (∃ st, Sim (gm + 1) gr gm a' b' len ca cb zs st wr) ∧ Hid (Below w.heap.size w wr)) (fun x _ => lc - (intOf x).toNat)
  case atStart => exact ⟨0, by omega, rfl, HS6, HB6⟩
  case round =>
    obtain ⟨i, hi, rfl, HSi, HBi⟩ := hrel
    clear HS6 HB6
    by_cases hlt : i < lc
    · have hlt' : (i : Int) < (lc : Int) := by omega
      rcases HQ.out with h0 | ⟨bb, oo, rfl, hbb, hcell⟩
      · omega
      obtain ⟨c0, c1⟩ := hcell i hlt
      clear hcell
      have d0 : wr.cell? ⟨bb, oo + i * 2, none⟩ = some (.int .u8 (K i)) := (HBi.out.cell (p := ⟨bb, oo + i * 2, none⟩) hbb).trans c0
      have d1 : wr.cell? ⟨bb, oo + i * 2 + 1, none⟩ = some (.int .i64 (M i)) := (HBi.out.cell (p := ⟨bb, oo + i * 2 + 1, none⟩) hbb).trans c1
      clear c0 c1
      obtain ⟨st, hst⟩ := HSi.out
      have HX7 : Hid (Calls Try.prog 29 #[.pointer (some ⟨gr, 0, none⟩), .pointer (some ⟨gm, 0, none⟩), .agg #[.int .u8 (K i), .int .i64 (M i)]] wr fun e w' => e = .returned (.bool true) ∧ Hid ((∃ st', Sim (gm + 1) gr gm a' b' len ca cb zs st' w') ∧ Below w.heap.size wr w')) := asked_any HE.out hst (K i) (M i) HBi.out.size
      clear hst
      go_wp2_with fail
      refine HX7.out.mono ?_
      rintro e w7 ⟨rfl, H7⟩
      clear d0 d1
      go_wp2
      exact ⟨⟨i + 1, by omega, by go_num, H7.out.1, HBi.out.trans H7.out.2⟩, by simp [intOf]; omega⟩
    · have hge : (lc : Int) ≤ (i : Int) := by omega
      obtain ⟨st, hst⟩ := HSi.out
      have HX7 : Hid (Calls Try.prog 29 #[.pointer (some ⟨gr, 0, none⟩), .pointer (some ⟨gm, 0, none⟩), .agg #[.int .u8 7, .int .i64 0]] wr fun e w' => e = .returned (.bool true) ∧ Hid ((∃ st', Sim (gm + 1) gr gm a' b' len ca cb zs st' w') ∧ Below w.heap.size wr w')) := asked_any HE.out hst 7 0 HBi.out.size
      clear hst
      go_wp2_with fail
      refine HX7.out.mono ?_
      rintro e w7 ⟨rfl, H7⟩
      go_wp2
      go_ret
      exact ⟨rfl, HBi.out.trans H7.out.2⟩
end Go.Proofs.Ytglkjiebcmmglaa
