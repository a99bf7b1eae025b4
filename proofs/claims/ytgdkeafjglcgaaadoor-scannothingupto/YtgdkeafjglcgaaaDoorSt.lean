/- Whether a word could stand so. -/
import Derived.Test.YtgdkeafjglcgaaaDoorSo
import Derived.Test.YtgdkeafjglcgaaaDoorSr
namespace Go.Proofs.YtgdkeafjglcgaaaDoor
open Go.ChangeShapes Go.WideShapes Go.ChangeAt Go.RowKit
set_option linter.unusedVariables false
set_option linter.unusedSimpArgs false


theorem blw_dn {B : Nat} {a w : World} (h : Below B a w) (n : Nat) : Below B a (w.drewN n) := h.trans ⟨rfl, rfl, rfl, Nat.le_refl _, fun _ _ => rfl⟩
theorem wtx_list (v : Wd) : (wtx v).data.toList = wtxt v := by simp [wtx]
theorem could_er {v : Wd} {e l : Nat} (hs : wsz v ≤ 65536) (h : entsF (wtxt v) = .er e l) : goodW v = false := by
  cases hg : goodW v with
  | false => rfl
  | true =>
    obtain ⟨e', h1, _⟩ := good_alone hg (by rw [wtxt_len]; exact hs)
    rw [h] at h1; cases h1
theorem could_len {v : Wd} {es : List En} (hs : wsz v ≤ 65536) (h : entsF (wtxt v) = .ok es) (hl : es.length ≠ 1) : goodW v = false := by
  cases hg : goodW v with
  | false => rfl
  | true =>
    obtain ⟨e', h1, _⟩ := good_alone hg (by rw [wtxt_len]; exact hs)
    rw [h] at h1; cases h1; exact absurd rfl hl
theorem could_ws {v : Wd} {e : En} (hs : wsz v ≤ 65536) (h : entsF (wtxt v) = .ok [e]) (hl : e.ws.length ≠ 1) : goodW v = false := by
  cases hg : goodW v with
  | false => rfl
  | true =>
    obtain ⟨e', h1, h2⟩ := good_alone hg (by rw [wtxt_len]; exact hs)
    rw [h] at h1; cases h1; rw [h2] at hl; exact absurd rfl hl
theorem could_eq {v u : Wd} {e : En} (hs : wsz v ≤ 65536) (h : entsF (wtxt v) = .ok [e]) (hl : e.ws = [u]) : goodW v = decide (u = v) := by
  cases hg : goodW v with
  | false =>
    symm; rw [decide_eq_false_iff_not]; rintro rfl
    have := alone_good (w := u) ⟨e, h, hl⟩
    rw [hg] at this; cases this
  | true =>
    obtain ⟨e', h1, h2⟩ := good_alone hg (by rw [wtxt_len]; exact hs)
    rw [h] at h1; cases h1
    rw [hl] at h2
    simp only [List.cons.injEq, and_true] at h2
    simp [h2]
set_option maxRecDepth 100000 in
set_option maxHeartbeats 2000000 in
theorem could20 (v : Wd) (w : World) (hs : wsz v ≤ 65536) : Calls Tryd.prog 18 #[.agg #[.string v.1, .bool v.2]] w fun e w' => e = .returned (.bool (goodW v)) ∧ Hid (Below w.heap.size w w') := by
  have hvs := wsz_sz v
  have K40 := Lib.hid (fun W => wtext40 v W (by omega))
  have K12 : Hid (∀ W, Calls Tryd.prog 10 #[.string (wtx v)] W (EnP W (entsF (wtxt v)))) := fun W => by
    have := entries12 (wtx v) W
    rw [wtx_list] at this; exact this
  have HC1 : Hid (∀ e l, entsF (wtxt v) = .er e l → goodW v = false) := fun e l h => could_er hs h
  have HC2 : Hid (∀ es, entsF (wtxt v) = .ok es → es.length ≠ 1 → goodW v = false) := fun es h hl => could_len hs h hl
  have HC3 : Hid (∀ e, entsF (wtxt v) = .ok [e] → e.ws.length ≠ 1 → goodW v = false) := fun es h hl => could_ws hs h hl
  have HC4 : Hid (∀ e u, entsF (wtxt v) = .ok [e] → e.ws = [u] → goodW v = decide (u = v)) := fun e u h hl => could_eq hs h hl
  have HER : Hid (∀ e l, entsF (wtxt v) = .er e l → e = 230 ∨ e = 3) := fun e l h => (ents_er (by rw [wtxt_len]; exact hs) h).1
  generalize goodW v = G at *
  generalize entsF (wtxt v) = R at *
  generalize wtx v = tx at *
  have HB0 : Hid (Below w.heap.size w (w.alloc (.cells #[.string v.1, .bool v.2] 44))) := alp_below _ _
  have p0 : (w.alloc (.cells #[.string v.1, .bool v.2] 44)).cell? ⟨w.heap.size, 0, none⟩ = some (.string v.1) := by simp [go_sem]
  have p1 : (w.alloc (.cells #[.string v.1, .bool v.2] 44)).cell? ⟨w.heap.size, 1, none⟩ = some (.bool v.2) := by simp [go_sem]
  have pl : w.heap.size < (w.alloc (.cells #[.string v.1, .bool v.2] 44)).heap.size := by simp
  have HP : Hid (∀ W, Below (w.alloc (.cells #[.string v.1, .bool v.2] 44)).heap.size (w.alloc (.cells #[.string v.1, .bool v.2] 44)) W → W.cell? ⟨w.heap.size, 0, none⟩ = some (.string v.1) ∧ W.cell? ⟨w.heap.size, 1, none⟩ = some (.bool v.2) ∧ w.heap.size < W.heap.size) := fun W hW =>
    ⟨(hW.cell (p := ⟨w.heap.size, 0, none⟩) pl).trans p0, (hW.cell (p := ⟨w.heap.size, 1, none⟩) pl).trans p1, Nat.lt_of_lt_of_le pl hW.size⟩
  clear p0 p1 pl hs
  go_enter Tryd.func18, Tryd.ntmps18
  go_wp2_with fail
  refine (K40.out _).mono ?_
  rintro e w1 ⟨rfl, H1⟩
  go_wp2_with fail
  refine (K12.out _).mono ?_
  rintro e w2 ⟨y, a, b, rfl, H2⟩
  have HBL : Hid (Below w1.heap.size w1 w2) := (by
    show Below _ _ _
    have := H2.out
    cases R with
    | er e l => exact this.2.2.2
    | ok es => exact this.2.2.2)
  have HB3 : Hid (Below w2.heap.size w2 (w2.alloc (.cells #[.int .i64 a, .int .i64 b] 36))) := alp_below _ _
  have HB4 : Hid (Below (w.alloc (.cells #[.string v.1, .bool v.2] 44)).heap.size (w.alloc (.cells #[.string v.1, .bool v.2] 44)) (w2.alloc (.cells #[.int .i64 a, .int .i64 b] 36))) := H1.out.trans ((HBL.out.trans (HB3.out.mono HBL.out.size)).mono H1.out.size)
  have HB5 : Hid (Below w.heap.size w (w2.alloc (.cells #[.int .i64 a, .int .i64 b] 36))) := HB0.out.trans (HB4.out.mono HB0.out.size)
  obtain ⟨q0, q1, ql⟩ := HP.out _ HB4.out
  have f0 : (w2.alloc (.cells #[.int .i64 a, .int .i64 b] 36)).cell? ⟨w2.heap.size, 0, none⟩ = some (.int .i64 a) := by simp [go_sem]
  have fl : w2.heap.size < (w2.alloc (.cells #[.int .i64 a, .int .i64 b] 36)).heap.size := by simp
  cases R with
  | er e l =>
    obtain ⟨rfl, rfl, rfl, _⟩ := H2.out
    have n0 : ¬ (a : Int) = 0 := by have := HER.out a b rfl; omega
    have n1 : ((a : Int) == 0) = false := by simpa using n0
    have HG : Hid (G = false) := HC1.out a b rfl
    clear H2 HER HC1 HC2 HC3 HC4 HBL HP K40 K12 HB4 HB3 HB0 H1
    go_wp2_with fail
    generalize w2.alloc (.cells #[.int .i64 a, .int .i64 b] 36) = w3 at *
    go_quiet (fail)
    go_wp2_with fail
    go_ret
    exact ⟨by rw [HG.out]; rfl, blw_dn HB5.out _⟩
  | ok es =>
    obtain ⟨rfl, rfl, how, _⟩ := H2.out
    obtain ⟨ya, yc, rfl, hrd, hc1, hc2⟩ := how.rd
    by_cases hes : es.length = 1
    · obtain ⟨en, rfl⟩ : ∃ en, es = [en] := by
        match es, hes with
        | [en], _ => exact ⟨en, rfl⟩
      obtain ⟨b, o, rfl, hb, x, c0, c1, c2, hx⟩ := hrd.at 0 (by simp)
      simp only [List.getElem_cons_zero, Nat.zero_mul, Nat.add_zero] at c0 c1 c2 hx
      have d2 : (w2.alloc (.cells #[.int .i64 ((0 : Nat) : Int), .int .i64 ((0 : Nat) : Int)] 36)).cell? ⟨b, o + 2, none⟩ = some (.slice x.a x.n x.c) := (HB3.out.cell (p := ⟨b, o + 2, none⟩) hb).trans c2
      have hbl : b < (w2.alloc (.cells #[.int .i64 ((0 : Nat) : Int), .int .i64 ((0 : Nat) : Int)] 36)).heap.size := Nat.lt_of_lt_of_le hb HB3.out.size
      have hx2 := hx.below HB3.out
      obtain ⟨xa, xn, xc⟩ := x
      obtain ⟨hxn, hxc, hxc2, hxr⟩ := hx2
      simp only [List.length_cons, List.length_nil] at hxn hxc hxc2 hxr d2 hc1 hc2
      by_cases hws : en.ws.length = 1
      · obtain ⟨u, hu⟩ : ∃ u, en.ws = [u] := by
          match hl : en.ws, hws with
          | [u], _ => exact ⟨u, rfl⟩
        have HG : Hid (G = decide (u = v)) := HC4.out en u rfl hu
        rw [hu] at hxn hxc hxr
        simp only [List.length_cons, List.length_nil] at hxn hxc
        subst hxn
        obtain ⟨b2, o2, e2, hb2, g0, g1⟩ := hxr.at 0 (by simp)
        subst e2
        simp only [List.getElem_cons_zero, Nat.zero_mul, Nat.add_zero] at g0 g1
        have hq := Lib.hid (fun W => eqlW u.1 v.1 u.2 v.2 W)
        have hqq : ∀ W, (binOp .eql 44 (.agg #[.string u.1, .bool u.2]) (.agg #[.string v.1, .bool v.2])).run Tryd.prog W = .ok (.bool (decide (u = v))) W := fun W => hq.out W
        clear H2 HER HC1 HC2 HC3 HC4 HBL HP K40 K12 HB4 HB3 HB0 H1 how hrd hx hxr hq hu hws hes c0 c1 c2
        go_wp2_with fail
        generalize w2.alloc (.cells #[.int .i64 0, .int .i64 0] 36) = w3 at *
        go_quiet (fail)
        go_wp2_with fail
        go_ret
        exact ⟨by rw [HG.out]; rfl, blw_dn HB5.out _⟩
      · have HG : Hid (G = false) := HC3.out en rfl hws
        have hn1 : ¬ (xn : Int) = 1 := by omega
        have hn2 : ((xn : Int) == 1) = false := by simpa using hn1
        clear H2 HER HC1 HC2 HC3 HC4 HBL HP K40 K12 HB4 HB3 HB0 H1 how hrd hx hxr hxn hws hes c0 c1 c2
        go_wp2_with fail
        generalize w2.alloc (.cells #[.int .i64 0, .int .i64 0] 36) = w3 at *
        go_quiet (fail)
        go_wp2_with fail
        go_ret
        exact ⟨by rw [HG.out]; rfl, blw_dn HB5.out _⟩
    · have HG : Hid (G = false) := HC2.out es rfl hes
      generalize es.length = n at *
      have hn1 : ¬ (n : Int) = 1 := by omega
      have hn2 : ((n : Int) == 1) = false := by simpa using hn1
      clear H2 HER HC1 HC2 HC3 HC4 HBL HP K40 K12 HB4 HB3 HB0 H1 how hrd
      go_wp2_with fail
      generalize w2.alloc (.cells #[.int .i64 0, .int .i64 0] 36) = w3 at *
      go_quiet (fail)
      go_wp2_with fail
      go_ret
      exact ⟨by rw [HG.out]; rfl, blw_dn HB5.out _⟩
end Go.Proofs.YtgdkeafjglcgaaaDoor
