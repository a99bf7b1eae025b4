/- The document's Entries, of a text that is not too long. -/
import Derived.Test.YtgdkeafjglcgaaaDf1
import Derived.Test.YtgdkeafjglcgaaaSl
namespace Go.Proofs.Ytgdkeafjglcgaaa
open Go.ChangeShapes Go.WideShapes Go.ChangeAt Go.RowKit
set_option linter.unusedVariables false
set_option linter.unusedSimpArgs false

def RnQ (w0 : World) (r : Rt) (v : Value) (a : Int) (w' : World) : Prop := Below w0.heap.size w0 w' ∧ ((Er r ∧ a ≠ 0 ∧ v = .slice none 0 0) ∨ (∃ es, r = .ok es ∧ a = 0 ∧ OwE w0.heap.size w' v es))
def RnP (w0 : World) (r : Rt) (e : Ending) (w' : World) : Prop := ∃ (v : Value) (a b : Int), e = .returned (.tuple #[v, .agg #[.int .i64 a, .int .i64 b]]) ∧ Hid (RnQ w0 r v a w')
def qe : Cf := ⟨0, 1, 0, [], 0, false, [], []⟩
def boxE (s : ByteArray) : Obj := .cells #[.string s, .int .i64 0, .int .i64 1, .int .i64 0, .bool false, .int .i64 0, .bool false, .slice none 0 0, .slice none 0 0, .int .i64 0, .int .i64 0] 96
theorem ds_new (w : World) (s : ByteArray) : DS w.heap.size w.heap.size w (w.alloc (boxE s)) s qe 0 (.slice none 0 0) (.slice none 0 0) (w.alloc (boxE s)) 0 := by
  refine ⟨?_, OwE.nil _ _, Since.refl (alp_below w _).size, World.ownsRow_nil _ _ _ _, Nat.le_refl _, alp_below w _⟩
  have := heap_alloc_new w (boxE s)
  simpa [Dx, qe, boxE] using this
/-- A step, told for whatever stands there. -/
def StepOK (B X : Nat) (w0 : World) (s : ByteArray) (L : Nat) : Prop := ∀ W q p wv ev wS fl, DS B X w0 W s q p wv ev wS fl → Nd q p → p < s.size → Calls Try.prog 70 #[.pointer (some ⟨X, 0, none⟩)] W fun r w' => r = .returned (.tuple #[]) ∧ Hid (StD B X w0 s L q p w')
theorem res_keep {w W : World} {a b : Int} {B : Nat} (hb : Below B (w.alloc (.cells #[.int .i64 0, .int .i64 0] 36)) W) (hB : w.heap.size < B) : W.heap[w.heap.size]? = some (.cells #[.int .i64 0, .int .i64 0] 36 (0, 0)) :=
  (hb.block w.heap.size hB).trans (heap_alloc_new _ _)
set_option maxRecDepth 100000 in
set_option maxHeartbeats 4000000 in
theorem rents63 (s : ByteArray) (w : World) (hs : s.size ≤ 65536) (K : StepOK (w.heap.size + 1) (w.heap.size + 1) (w.alloc (.cells #[.int .i64 0, .int .i64 0] 36)) s (linesF s.data.toList)) : Calls Try.prog 63 #[.string s] w (RnP w (entsF s.data.toList)) := by
  have hs' : ¬ (65536 : Int) < (s.size : Int) := by omega
  have hl : s.data.toList.length = s.size := by simp
  have HX : Hid (entsF s.data.toList = goF (linesF s.data.toList) (q0 s.data.toList) (rst s 0)) := (by show _ = _; simp only [entsF, hl]; rw [if_neg (by omega)]; rfl)
  rw [HX.out]
  have HK := Lib.hid K
  have h0 := ds_new (w.alloc (.cells #[.int .i64 0, .int .i64 0] 36)) s
  rw [show (w.alloc (.cells #[.int .i64 0, .int .i64 0] 36)).heap.size = w.heap.size + 1 from by simp] at h0
  have K69 : Hid (Calls Try.prog 69 #[.pointer (some ⟨w.heap.size + 1, 0, none⟩)] ((w.alloc (.cells #[.int .i64 0, .int .i64 0] 36)).alloc (.cells #[.string s, .int .i64 0, .int .i64 1, .int .i64 0, .bool false, .int .i64 0, .bool false, .slice none 0 0, .slice none 0 0, .int .i64 0, .int .i64 0] 96)) fun r w' => r = .returned (.tuple #[]) ∧ Hid (EndP (w.heap.size + 1) (w.heap.size + 1) (w.alloc (.cells #[.int .i64 0, .int .i64 0] 36)) s qe 0 w')) := end69 h0 (by simp [qe])
  have K72 := Lib.hid (fun W => rlines72 s W (by omega))
  generalize linesF s.data.toList = L at *
  clear K h0 hl HX
  go_enter Try.func63, Try.ntmps63
  go_wp2_with fail
  refine K69.out.mono ?_
  rintro e w1 ⟨rfl, H1⟩
  have HD1 : Hid (∃ wv ev wS fl, DS (w.heap.size + 1) (w.heap.size + 1) (w.alloc (.cells #[.int .i64 0, .int .i64 0] 36)) w1 s (q0 s.data.toList) 0 wv ev wS fl) := H1.out
  clear K69 H1
  go_wp2_with fail
  go_loopw [14] (fun y wr => Hid ((∃ q p wv ev wS fl, DS (w.heap.size + 1) (w.heap.size + 1) (w.alloc (.cells #[.int .i64 0, .int .i64 0] 36)) wr s q p wv ev wS fl ∧ Nd q p ∧ p ≤ s.size ∧ goF L (q0 s.data.toList) (rst s 0) = goF L q (rst s p)) ∨ (DF (w.heap.size + 1) (w.heap.size + 1) (w.alloc (.cells #[.int .i64 0, .int .i64 0] 36)) wr s ∧ Er (goF L (q0 s.data.toList) (rst s 0))))) (fun y wr => mE (w.heap.size + 1) s wr)
  case atStart =>
    obtain ⟨wv, ev, wS, fl, hds⟩ := HD1.out
    exact .inl ⟨_, 0, wv, ev, wS, fl, hds, ⟨rfl, by simp [q0], by simp [q0], by simp [q0], by simp [q0]⟩, Nat.zero_le _, rfl⟩
  case round =>
    clear HD1
    obtain ⟨W, hW⟩ : ∃ W, W = wr := ⟨_, rfl⟩
    subst hW
    rcases hrel.out with ⟨q, p, wv, ev, wS, fl, hds, hnd, hps, hg⟩ | ⟨hdf, her⟩
    · have c1 := hds.bx.c1
      have c3 := hds.bx.c3
      have c9 := hds.bx.c9
      have hlt := hds.bx.lt
      have HDS := Lib.hid hds
      have HND := Lib.hid hnd
      have HG := Lib.hid hg
      clear hds hg hrel
      by_cases hp : p < s.size
      · have hp' : (p : Int) < (s.size : Int) := by omega
        have K70 := Lib.hid (HK.out W q p wv ev wS fl HDS.out HND.out hp)
        clear hnd
        go_wp2_with fail
        refine K70.out.mono ?_
        rintro e w9 ⟨rfl, H9⟩
        go_wp2_with fail
        rcases H9.out with ⟨hdf, her⟩ | ⟨q', p', wv', ev', wS', fl', hds', hnd', hlt', hle', hg'⟩
        · obtain ⟨p2, ln2, op2, bl2, el2, eb2, wv2, ev2, fe2, fl2, hd2, hf2, hx2⟩ := hdf
          go_roundw
          case rel => exact .inr ⟨⟨p2, ln2, op2, bl2, el2, eb2, wv2, ev2, fe2, fl2, hd2, hf2, hx2⟩, by rw [HG.out]; exact her⟩
          case measure => simp only [hd2.mE, HDS.out.bx.mE, if_neg hf2]; simp
        · go_roundw
          case rel => exact .inl ⟨q', p', wv', ev', wS', fl', hds', hnd', hle', by rw [HG.out]; exact hg'⟩
          case measure => simp only [hds'.bx.mE, HDS.out.bx.mE]; simp; omega
      · obtain rfl : p = s.size := by omega
        have hp' : ¬ (s.size : Int) < (s.size : Int) := by omega
        have hfin := d_fin L q hnd.st
        rw [← rst_nil (s := s) (p := s.size) (by omega)] at hfin
        have hop := hnd.op
        have hes := hnd.es
        by_cases ho : 0 < q.op
        · have ho' : (0 : Int) < (q.op : Int) := by omega
          have HER : Hid (Er (goF L (q0 s.data.toList) (rst s 0))) := (by show Er _; rw [HG.out, hfin, if_pos ho]; exact er_mk _ _)
          have K71 : Hid (∀ z : Int, Calls Try.prog 71 #[.pointer (some ⟨w.heap.size + 1, 0, none⟩), .int .i64 230, .int .i64 z] W fun r w' => r = .returned (.tuple #[]) ∧ Hid (DF (w.heap.size + 1) (w.heap.size + 1) (w.alloc (.cells #[.int .i64 0, .int .i64 0] 36)) w' s)) := fun z => (fault71_ok HDS.out.bx 230 z).mono fun r w' ⟨h1, h2⟩ => ⟨h1, HDS.out.fail h2.out.2 h2.out.1 (by decide)⟩
          clear hnd hfin
          go_wp2_with fail
          refine (K72.out _).mono ?_
          rintro e w9 ⟨z, rfl, rfl⟩
          go_wp2_with fail
          refine (K71.out _).mono ?_
          rintro e W ⟨rfl, HDF⟩
          -- a fault is told
          obtain ⟨p2, ln2, op2, bl2, el2, eb2, wv2, ev2, fe2, fl2, hd2, hf2, _, hb2⟩ := HDF.out
          have g9 := hd2.c9
          have g10 := hd2.c10
          have gl := hd2.lt
          have gn : (fe2 != 0) = true := by simpa using hf2
          have gn1 : ¬ fe2 = 0 := hf2
          have gn2 : (fe2 == 0) = false := by simpa using hf2
          have hJ : W.heap[w.heap.size]? = some (.cells #[.int .i64 0, .int .i64 0] 36 (0, 0)) := res_keep (a := 0) (b := 0) hb2 (by simp)
          have k0 := rc_c0 hJ
          have k1 := rc_c1 hJ
          have kf := rc_fz hJ
          have kl := rc_lt hJ
          have z0 := rc_c0 (rc_put hJ (.int .i64 fe2) (.int .i64 fl2))
          have z1 := rc_c1 (rc_put hJ (.int .i64 fe2) (.int .i64 fl2))
          have HFI : Hid (∀ n, Below w.heap.size w (((W.drewN n).setCell ⟨w.heap.size, 0, none⟩ (.int .i64 fe2)).setCell ⟨w.heap.size, 1, none⟩ (.int .i64 fl2))) := fun n => ((blw_dn ((alp_below w _).trans (hb2.mono (by simp))) n).setCell (p := ⟨w.heap.size, 0, none⟩) (Nat.le_refl _) _).setCell (p := ⟨w.heap.size, 1, none⟩) (Nat.le_refl _) _
          clear hd2 hb2 hJ
          go_wp2_with fail
          refine wp_region_last (l := [_, _, _, _, _]) (o := _) rfl (by kernel_rfl) (by kernel_rfl) ?_
          repeat
            (with_reducible refine wpQuiet_step (fun K hK => ?_)
             go_simp
             first
               | (with_reducible refine hK _ ?_; clear hK K)
               | (apply Exists.intro
                  with_reducible refine ⟨fun _ => ?_, hK _ ?_⟩
                  fail
                  clear hK K))
          with_reducible refine wpQuiet_nil ?_
          intro _ hw'
          obtain ⟨nq, hw''⟩ := hw'
          subst hw''
          unfold Oper.wp
          go_simp
          go_wp2_with fail
          refine bodyPost_ret (v := .tuple #[.slice none 0 0, .agg #[.int .i64 fe2, .int .i64 fl2]]) ?_ rfl ⟨_, fe2, fl2, rfl, HFI.out _, .inl ⟨HER.out, gn1, rfl⟩⟩
          simp [results, Try.results63, go_sem, z0, z1, k0, k1, kl]
        · have ho' : ¬ (0 : Int) < (q.op : Int) := by omega
          have HOK : Hid (goF L (q0 s.data.toList) (rst s 0) = .ok (closeF q).es) := (by show _ = _; rw [HG.out, hfin, if_neg ho])
          have K69 := Lib.hid (end69 HDS.out (by omega))
          clear hnd hfin
          go_wp2_with fail
          refine K69.out.mono ?_
          rintro e W ⟨rfl, H9⟩
          obtain ⟨wv', ev', wS', fl', hd9⟩ := H9.out
          have g8 := hd9.bx.c8
          have gl := hd9.bx.lt
          have hJ : W.heap[w.heap.size]? = some (.cells #[.int .i64 0, .int .i64 0] 36 (0, 0)) := res_keep (a := 0) (b := 0) hd9.bl (by simp)
          have k0 := rc_c0 hJ
          have k1 := rc_c1 hJ
          have kf := rc_fz hJ
          have kl := rc_lt hJ
          have z0 := rc_c0 (rc_put hJ (.int .i64 0) (.int .i64 0))
          have z1 := rc_c1 (rc_put hJ (.int .i64 0) (.int .i64 0))
          have HFI : Hid (Below w.heap.size w ((W.setCell ⟨w.heap.size, 0, none⟩ (.int .i64 0)).setCell ⟨w.heap.size, 1, none⟩ (.int .i64 0))) := (((alp_below w _).trans (hd9.bl.mono (by simp))).setCell (p := ⟨w.heap.size, 0, none⟩) (Nat.le_refl _) _).setCell (p := ⟨w.heap.size, 1, none⟩) (Nat.le_refl _) _
          have HOW : Hid (OwE w.heap.size ((W.setCell ⟨w.heap.size, 0, none⟩ (.int .i64 0)).setCell ⟨w.heap.size, 1, none⟩ (.int .i64 0)) ev' (closeF q).es) := (by
            show OwE _ _ _ _
            have h1 : OwE w.heap.size W ev' (closeF q).es := (hd9.si.own hd9.ow).low (by omega)
            refine h1.go (by simp) (fun k _ hk => ?_)
            have hne : k ≠ w.heap.size := fun e => by
              obtain ⟨c, t, a1, a2⟩ := hk
              rw [e, hJ] at a1; cases a1; simp at a2
            rw [Below.heap_setCell _ _ _ _ hne, Below.heap_setCell _ _ _ _ hne])
          clear hd9 hJ H9 K69
          go_wp2_with fail
          refine bodyPost_ret (v := .tuple #[ev', .agg #[.int .i64 0, .int .i64 0]]) ?_ rfl ⟨_, 0, 0, rfl, HFI.out, .inr ⟨_, HOK.out, rfl, HOW.out⟩⟩
          simp [results, Try.results63, go_sem, z0, z1, k0, k1, kl]
    · have HDF := Lib.hid hdf
      have HER := Lib.hid her
      clear hdf her hrel
      -- a fault is told
      obtain ⟨p2, ln2, op2, bl2, el2, eb2, wv2, ev2, fe2, fl2, hd2, hf2, _, hb2⟩ := HDF.out
      have g9 := hd2.c9
      have g10 := hd2.c10
      have gl := hd2.lt
      have gn : (fe2 != 0) = true := by simpa using hf2
      have gn1 : ¬ fe2 = 0 := hf2
      have gn2 : (fe2 == 0) = false := by simpa using hf2
      have hJ : W.heap[w.heap.size]? = some (.cells #[.int .i64 0, .int .i64 0] 36 (0, 0)) := res_keep (a := 0) (b := 0) hb2 (by simp)
      have k0 := rc_c0 hJ
      have k1 := rc_c1 hJ
      have kf := rc_fz hJ
      have kl := rc_lt hJ
      have z0 := rc_c0 (rc_put hJ (.int .i64 fe2) (.int .i64 fl2))
      have z1 := rc_c1 (rc_put hJ (.int .i64 fe2) (.int .i64 fl2))
      have HFI : Hid (∀ n, Below w.heap.size w (((W.drewN n).setCell ⟨w.heap.size, 0, none⟩ (.int .i64 fe2)).setCell ⟨w.heap.size, 1, none⟩ (.int .i64 fl2))) := fun n => ((blw_dn ((alp_below w _).trans (hb2.mono (by simp))) n).setCell (p := ⟨w.heap.size, 0, none⟩) (Nat.le_refl _) _).setCell (p := ⟨w.heap.size, 1, none⟩) (Nat.le_refl _) _
      have g1 := hd2.c1
      have g3 := hd2.c3
      have HD2 := Lib.hid hd2
      clear hd2 hb2 hJ
      by_cases hq1 : (p2 : Int) < (s.size : Int)
      · by_cases hq2 : (0 : Int) < op2
        · have K71 := Lib.hid (fun z : Int => fault71_no HD2.out gn1 230 z)
          go_wp2_with fail
          refine (K72.out _).mono ?_
          rintro e w9 ⟨z, rfl, rfl⟩
          go_wp2_with fail
          refine (K71.out _).mono ?_
          rintro e w8 ⟨rfl, rfl⟩
          go_wp2_with fail
          refine wp_region_last (l := [_, _, _, _, _]) (o := _) rfl (by kernel_rfl) (by kernel_rfl) ?_
          repeat
            (with_reducible refine wpQuiet_step (fun K hK => ?_)
             go_simp
             first
               | (with_reducible refine hK _ ?_; clear hK K)
               | (apply Exists.intro
                  with_reducible refine ⟨fun _ => ?_, hK _ ?_⟩
                  fail
                  clear hK K))
          with_reducible refine wpQuiet_nil ?_
          intro _ hw'
          obtain ⟨nq, hw''⟩ := hw'
          subst hw''
          unfold Oper.wp
          go_simp
          go_wp2_with fail
          refine bodyPost_ret (v := .tuple #[.slice none 0 0, .agg #[.int .i64 fe2, .int .i64 fl2]]) ?_ rfl ⟨_, fe2, fl2, rfl, HFI.out _, .inl ⟨HER.out, gn1, rfl⟩⟩
          simp [results, Try.results63, go_sem, z0, z1, k0, k1, kl]
        · skip
          go_wp2_with fail
          refine wp_region_last (l := [_, _, _, _, _]) (o := _) rfl (by kernel_rfl) (by kernel_rfl) ?_
          repeat
            (with_reducible refine wpQuiet_step (fun K hK => ?_)
             go_simp
             first
               | (with_reducible refine hK _ ?_; clear hK K)
               | (apply Exists.intro
                  with_reducible refine ⟨fun _ => ?_, hK _ ?_⟩
                  fail
                  clear hK K))
          with_reducible refine wpQuiet_nil ?_
          intro _ hw'
          obtain ⟨nq, hw''⟩ := hw'
          subst hw''
          unfold Oper.wp
          go_simp
          go_wp2_with fail
          refine bodyPost_ret (v := .tuple #[.slice none 0 0, .agg #[.int .i64 fe2, .int .i64 fl2]]) ?_ rfl ⟨_, fe2, fl2, rfl, HFI.out _, .inl ⟨HER.out, gn1, rfl⟩⟩
          simp [results, Try.results63, go_sem, z0, z1, k0, k1, kl]
      · by_cases hq2 : (0 : Int) < op2
        · have K71 := Lib.hid (fun z : Int => fault71_no HD2.out gn1 230 z)
          go_wp2_with fail
          refine (K72.out _).mono ?_
          rintro e w9 ⟨z, rfl, rfl⟩
          go_wp2_with fail
          refine (K71.out _).mono ?_
          rintro e w8 ⟨rfl, rfl⟩
          go_wp2_with fail
          refine wp_region_last (l := [_, _, _, _, _]) (o := _) rfl (by kernel_rfl) (by kernel_rfl) ?_
          repeat
            (with_reducible refine wpQuiet_step (fun K hK => ?_)
             go_simp
             first
               | (with_reducible refine hK _ ?_; clear hK K)
               | (apply Exists.intro
                  with_reducible refine ⟨fun _ => ?_, hK _ ?_⟩
                  fail
                  clear hK K))
          with_reducible refine wpQuiet_nil ?_
          intro _ hw'
          obtain ⟨nq, hw''⟩ := hw'
          subst hw''
          unfold Oper.wp
          go_simp
          go_wp2_with fail
          refine bodyPost_ret (v := .tuple #[.slice none 0 0, .agg #[.int .i64 fe2, .int .i64 fl2]]) ?_ rfl ⟨_, fe2, fl2, rfl, HFI.out _, .inl ⟨HER.out, gn1, rfl⟩⟩
          simp [results, Try.results63, go_sem, z0, z1, k0, k1, kl]
        · skip
          go_wp2_with fail
          refine wp_region_last (l := [_, _, _, _, _]) (o := _) rfl (by kernel_rfl) (by kernel_rfl) ?_
          repeat
            (with_reducible refine wpQuiet_step (fun K hK => ?_)
             go_simp
             first
               | (with_reducible refine hK _ ?_; clear hK K)
               | (apply Exists.intro
                  with_reducible refine ⟨fun _ => ?_, hK _ ?_⟩
                  fail
                  clear hK K))
          with_reducible refine wpQuiet_nil ?_
          intro _ hw'
          obtain ⟨nq, hw''⟩ := hw'
          subst hw''
          unfold Oper.wp
          go_simp
          go_wp2_with fail
          refine bodyPost_ret (v := .tuple #[.slice none 0 0, .agg #[.int .i64 fe2, .int .i64 fl2]]) ?_ rfl ⟨_, fe2, fl2, rfl, HFI.out _, .inl ⟨HER.out, gn1, rfl⟩⟩
          simp [results, Try.results63, go_sem, z0, z1, k0, k1, kl]
end Go.Proofs.Ytgdkeafjglcgaaa
