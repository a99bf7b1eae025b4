/- Copy: entries in memory of their own. -/
import Derived.Test.YtgdkeafjglcgaaaSx
import Derived.Test.YtgdkeafjglcgaaaSs
namespace Go.Proofs.Ytgdkeafjglcgaaa
open Go.ChangeShapes Go.WideShapes Go.ChangeAt Go.RowKit
set_option linter.unusedVariables false
set_option linter.unusedSimpArgs false

theorem set_size' (w : World) (a : Addr) (v : Value) : (w.setCell a v).heap.size = w.heap.size := by simp
theorem wrd_nil {w : World} {x : Sl} {ws : List Wd} (h : WRd w x ws) : x.a = none → x.n = 0 := by
  intro e
  rcases h.2.2.2 with e1 | ⟨b, o, ha, _⟩
  · rw [h.1, e1]; rfl
  · rw [e] at ha; cases ha
theorem cp_mid {B m c3 : Nat} {wr w3 : World} {cs : Array Value} {a3 : Option Addr} {en : En} (hB : B ≤ wr.heap.size) (hm : m = en.ws.length) (hg : ((wr.alloc (.cells cs 25)).alloc (.cells #[] 27)).grownBy w3 (some (wr.heap.size + 1))) (h3 : w3.ownsRow (wr.heap.size + 1) 27 2 (.slice a3 m c3) m (cellsW en.ws)) (hbx : w3.heap[wr.heap.size]? = some (.cells cs 25 (0, 0))) (u : Value) :
    Below wr.heap.size wr (w3.setCell ⟨wr.heap.size, 2, none⟩ u) ∧ RfE B (w3.setCell ⟨wr.heap.size, 2, none⟩ u) ⟨a3, m, c3⟩ en.ws := by
  have hb2 : Below wr.heap.size wr ((wr.alloc (.cells cs 25)).alloc (.cells #[] 27)) := (alp_below _ _).trans ((alp_below _ _).mono (alp_below _ _).size)
  have hb3 : Below wr.heap.size wr w3 := hb2.grown hg hb2.size (fun k e => by have := Option.some.inj e; omega)
  refine ⟨hb3.setCell (p := ⟨wr.heap.size, 2, none⟩) (Nat.le_refl _) _, ?_⟩
  subst hm
  have h4 : (w3.setCell ⟨wr.heap.size, 2, none⟩ u).ownsRow (wr.heap.size + 1) 27 2 (.slice a3 en.ws.length c3) en.ws.length (cellsW en.ws) := row_stays h3 (fun g hg' => Below.heap_setCell _ _ _ _ (fun e => by
    simp only at e
    have := (h3.lt g hg').1
    omega))
  obtain ⟨x, hx, hr⟩ := RfE.of h4
  have e : x = ⟨a3, en.ws.length, c3⟩ := by
    cases x; simp only [Value.slice.injEq] at hx; obtain ⟨rfl, rfl, rfl⟩ := hx; rfl
  subst e
  exact fun w' hs hb => hr w' hs (fun j hj => hb j (by omega))
set_option maxRecDepth 100000 in
set_option maxHeartbeats 4000000 in
theorem copy6 (x : Sl) (es : List En) (w : World) (h : LE w x es) (hn : es.length ≤ 1000000) (hws : ∀ e ∈ es, e.ws.length ≤ 1048576) :
    Calls Try.prog 6 #[.slice x.a x.n x.c] w fun e w' => ∃ v, e = .returned v ∧ Hid (OwE w.heap.size w' v es ∧ Below w.heap.size w w') := by
  have HR : Hid (LE w x es) := h
  have HWS : Hid (∀ e ∈ es, e.ws.length ≤ 1048576) := hws
  have hl := h.1.symm
  have hcap : x.n ≤ x.c := (by have := h.1; have := h.2.1; omega)
  have hcap2 := h.2.2.1
  clear h hws
  obtain ⟨sa, n, sc⟩ := x
  simp only at *
  have hn1 : n ≤ 1000000 := by omega
  clear hn
  obtain ⟨i25, hi, hz0, hz1, hz2⟩ := inf25
  have HI : Hid (Try.prog.info? 25 = some i25 ∧ i25.zero = some (.agg #[.int .i64 0, .bool false, .slice none 0 0]) ∧ i25.size = 3 ∧ i25.bytes = 40) := ⟨hi, hz0, hz1, hz2⟩
  clear hi hz0 hz1 hz2
  go_enter Try.func6, Try.ntmps6
  go_wp2_with fail
  go_loopw [3, 4] (fun u y wr => ∃ k : Nat, k ≤ n ∧ y = .int .i64 (k : Int) ∧ Hid (OwE w.heap.size wr u (es.take k) ∧ Below w.heap.size w wr)) (fun _ y _ => n - (intOf y).toNat)
  case atStart => exact ⟨0, Nat.zero_le _, rfl, by simpa using OwE.nil _ _, Below.refl _ _⟩
  case round =>
    obtain ⟨k, hk, rfl, HV⟩ := hrel
    by_cases hlt : k < n
    · have hlt' : (k : Int) < (n : Int) := by omega
      have hkl : k < es.length := by omega
      obtain ⟨ps, hp1, hp2, hp3⟩ := HV.out.1
      have hpl : ps.length = k := by have := congrArg List.length hp1; simp at this; omega
      rw [hpl] at hp2
      obtain ⟨ao, cv, rfl⟩ := row_shape hp2
      have HP : Hid (wr.ownsRow w.heap.size 25 3 (.slice ao k cv) k (cellsE ps)) := hp2
      have HPR : Hid (∀ p ∈ ps, RfE w.heap.size wr p.1 p.2.ws) := hp3
      have HPM : Hid (ps.map (·.2) ++ [es[k]] = es.take (k + 1)) := (by show _ = _; rw [hp1, List.take_succ_eq_append_getElem hkl])
      have HPL := Lib.hid hpl
      have HBW : Hid (Below w.heap.size w wr) := HV.out.2
      clear hp1 hp2 hp3 HV hpl
      obtain ⟨b, o, e0, hbb, y, c0, c1, c2, hy⟩ := HR.out.rd.at k hkl
      simp only at e0
      subst e0
      have hwr := HBW.out.size
      have d0 : wr.cell? ⟨b, o + k * 3, none⟩ = some (.int .i64 es[k].line) := (HBW.out.cell (p := ⟨b, o + k * 3, none⟩) hbb).trans c0
      have d1 : wr.cell? ⟨b, o + k * 3 + 1, none⟩ = some (.bool es[k].blank) := (HBW.out.cell (p := ⟨b, o + k * 3 + 1, none⟩) hbb).trans c1
      have d2 : wr.cell? ⟨b, o + k * 3 + 2, none⟩ = some (.slice y.a y.n y.c) := (HBW.out.cell (p := ⟨b, o + k * 3 + 2, none⟩) hbb).trans c2
      have hb1 : b < wr.heap.size := by omega
      have hb2 : b < wr.heap.size + 1 := by omega
      have hb3 : b < wr.heap.size + 1 + 1 := by omega
      have hmb : es[k].ws.length ≤ 1048576 := HWS.out _ (List.getElem_mem hkl)
      have hym : y.n = es[k].ws.length := hy.1
      have HLEN : Hid ((cellsW es[k].ws).length = y.n * 2) := (by show _ = _; rw [cellsW_len, hym])
      have HNIL : Hid (y.a = none → y.n = 0) := wrd_nil hy
      have HSRC : Hid (∀ W, Below w.heap.size w W → ∀ ad, y.a = some ad → ∀ j u, (cellsW es[k].ws)[j]? = some u → W.cell? (ad.add j) = some u) := fun W hW => wrd_src hy W hW
      have hyb : y.n ≤ 1048576 := by omega
      obtain ⟨ya, m, yc⟩ := y
      simp only at d2 hym HLEN HNIL HSRC hyb
      have HEW : Hid (m = es[k].ws.length) := hym
      clear hym hmb c0 c1 c2 hy
      generalize es[k] = en at *
      have HB2 : Hid (Below wr.heap.size wr ((wr.alloc (.cells #[.int .i64 en.line, .bool en.blank, .slice ya m yc] 25)).alloc (.cells #[] 27))) := (alp_below _ _).trans ((alp_below _ _).mono (alp_below _ _).size)
      have HBX : Hid (((wr.alloc (.cells #[.int .i64 en.line, .bool en.blank, .slice ya m yc] 25)).alloc (.cells #[] 27)).heap[wr.heap.size]? = some (.cells #[.int .i64 en.line, .bool en.blank, .slice ya m yc] 25 (0, 0))) := (by
        show _ = _
        rw [(alp_below _ _).block wr.heap.size (by simp)]; exact heap_alloc_new _ _)
      have HROW : Hid (((wr.alloc (.cells #[.int .i64 en.line, .bool en.blank, .slice ya m yc] 25)).alloc (.cells #[] 27)).ownsRow (wr.heap.size + 1) 27 2 (.slice (some ⟨wr.heap.size + 1, 0, none⟩) 0 0) 0 []) := (by
        show World.ownsRow _ _ _ _ _ _ _
        have := row_none (wr.alloc (.cells #[.int .i64 en.line, .bool en.blank, .slice ya m yc] 25)) (wr.heap.size + 1) (by simp)
        simpa using this)
      have HS2 : Hid (∀ ad, ya = some ad → ∀ j u, (cellsW en.ws)[j]? = some u → ((wr.alloc (.cells #[.int .i64 en.line, .bool en.blank, .slice ya m yc] 25)).alloc (.cells #[] 27)).cell? (ad.add j) = some u) := HSRC.out _ (HBW.out.trans (HB2.out.mono hwr))
      have hsz2 : wr.heap.size + 1 ≤ ((wr.alloc (.cells #[.int .i64 en.line, .bool en.blank, .slice ya m yc] 25)).alloc (.cells #[] 27)).heap.size := by simp
      go_wp2_with (first
        | (at_builtin; refine wpList_appT rfl _ _ rfl (wr.heap.size + 1) (some ⟨wr.heap.size + 1, 0, none⟩) 0 0 [] rfl HROW.out ya m yc (cellsW en.ws) rfl HLEN.out HS2.out HNIL.out (cellsW_one _) (by omega) hsz2 m (by omega) ?_; intro a3 c3 w3 H3 HG3; have hbx3 : Hid (w3.heap[wr.heap.size]? = some (.cells #[.int .i64 en.line, .bool en.blank, .slice ya m yc] 25 (0, 0))) := (HG3.out.block wr.heap.size (by simp; omega) (by simp [Value.ownBlock])).trans HBX.out; have z0 : w3.cell? ⟨wr.heap.size, 0, none⟩ = some (.int .i64 en.line) := cell_of hbx3.out rfl; have z1 : w3.cell? ⟨wr.heap.size, 1, none⟩ = some (.bool en.blank) := cell_of hbx3.out rfl; have z2 : w3.cell? ⟨wr.heap.size, 2, none⟩ = some (.slice ya m yc) := cell_of hbx3.out rfl; have zf : w3.frozen? ⟨wr.heap.size, 2, none⟩ = false := (by simp [World.frozen?, hbx3.out]); have zl := blk_lt hbx3.out; have HM := Lib.hid (cp_mid (B := w.heap.size) hwr HEW.out HG3.out H3.out hbx3.out (.slice a3 m c3)); have HO5 : Hid (((w3.setCell ⟨wr.heap.size, 2, none⟩ (.slice a3 m c3)).alloc (.cells #[.int .i64 en.line, .bool en.blank, .slice a3 m c3] 25)).ownsRow w.heap.size 25 3 (.slice ao k cv) k (cellsE ps)) := (row_stays HP.out (fun g hg => HM.out.1.block g (HP.out.lt g hg).2)).alloc _; have HC5 : Hid (∀ j u, (cellsE [((⟨a3, m, c3⟩ : Sl), en)])[j]? = some u → ((w3.setCell ⟨wr.heap.size, 2, none⟩ (.slice a3 m c3)).alloc (.cells #[.int .i64 en.line, .bool en.blank, .slice a3 m c3] 25)).cell? ((⟨w3.heap.size, 0, none⟩ : Addr).add j) = some u) := (by have := one_en (w3.setCell ⟨wr.heap.size, 2, none⟩ (.slice a3 m c3)) ⟨a3, m, c3⟩ en; rw [set_size'] at this; exact this); have hs5 : w.heap.size ≤ ((w3.setCell ⟨wr.heap.size, 2, none⟩ (.slice a3 m c3)).alloc (.cells #[.int .i64 en.line, .bool en.blank, .slice a3 m c3] 25)).heap.size := Nat.le_trans hwr (Nat.le_trans HM.out.1.size (alp_below _ _).size))
        | (at_builtin; refine wpList_append_own _ rfl _ _ 22 rfl w.heap.size 25 i25 _ 3 40 Try.underlying22 HI.out.1 HI.out.2.1 HI.out.2.2.1 HI.out.2.2.2 rfl (by decide) (.slice ao k cv) k (cellsE ps) rfl HO5.out ⟨w3.heap.size, 0, none⟩ 1 1 (cellsE [((⟨a3, m, c3⟩ : Sl), en)]) rfl (by rfl) HC5.out (cellsE_one _) (by simp only [maxLen]; omega) (by omega) hs5 ?_; intro v6 w6 h61 h62 h63; obtain ⟨ao6, cc6, rfl⟩ := row_shape h61; have HF := Lib.hid (OwE.push (e := en) (x := ⟨a3, m, c3⟩) (ps := ps) (fun p hp => (HPR.out p hp).go HM.out.1.size (fun j hj ⟨cur, hc⟩ => HM.out.1.block j (blk_lt hc))) HM.out.2 (by rw [HPL.out]; exact row_stays HP.out (fun g hg => HM.out.1.block g (HP.out.lt g hg).2)) (alp_below _ _) (by rw [HPL.out]; exact h61) h62); have HB6 : Hid (Below w.heap.size w w6) := HBW.out.trans ((HM.out.1.trans ((alp_below _ _).mono HM.out.1.size)).mono hwr |>.grown h62 (by simp; omega) (fun g hg => (HP.out.lt g hg).1)); clear h61 h62 h63))
      go_round
      case rel => exact ⟨k + 1, by omega, by go_num, (by rw [← HPM.out]; exact HF.out), HB6.out⟩
      case measure => simp [intOf]; omega
    · have hge : ¬ (k : Int) < (n : Int) := by omega
      have HE : Hid (OwE w.heap.size wr u3 es) := (by show OwE _ _ _ _; have := HV.out.1; rw [List.take_of_length_le (by omega)] at this; exact this)
      go_wp2_with fail
      go_ret
      exact ⟨_, rfl, HE.out, HV.out.2⟩
end Go.Proofs.Ytgdkeafjglcgaaa
