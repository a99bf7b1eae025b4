/- Entries. -/
import Derived.Test.YtgdkeafjglcgaaaDoorSn
namespace Go.Proofs.YtgdkeafjglcgaaaDoor
open Go.ChangeShapes Go.WideShapes Go.ChangeAt Go.RowKit
set_option linter.unusedVariables false
set_option linter.unusedSimpArgs false


def EnQ (B : Nat) (w0 : World) (v : Value) (a b : Nat) (w' : World) : Rt → Prop
  | .er e l => v = .slice none 0 0 ∧ a = e ∧ b = l ∧ Below B w0 w'
  | .ok es => a = 0 ∧ b = 0 ∧ OwE B w' v es ∧ Below B w0 w'
def EnP (w0 : World) (r : Rt) (e : Ending) (w' : World) : Prop :=
  ∃ v, ∃ a b : Nat, e = .returned (.tuple #[v, .agg #[.int .i64 a, .int .i64 b]]) ∧ Hid (EnQ w0.heap.size w0 v a b w' r)
set_option maxRecDepth 100000 in
set_option maxHeartbeats 2000000 in
theorem entries12_long (s : ByteArray) (w : World) (hs : 65536 < s.size) : Calls Tryd.prog 10 #[.string s] w (EnP w (entsF s.data.toList)) := by
  have hs' : (65536 : Int) < (s.size : Int) := by omega
  have hl : s.data.toList.length = s.size := by simp
  have HX : Hid (entsF s.data.toList = .er 3 0) := (by show _ = _; simp only [entsF, hl, if_pos hs])
  rw [HX.out]
  clear HX hl
  go_enter Tryd.func10, Tryd.ntmps10
  go_wp2_with fail
  refine bodyPost_ret (v := .tuple #[.slice none 0 0, .agg #[.int .i64 3, .int .i64 0]]) ?_ rfl ⟨_, 3, 0, rfl, rfl, rfl, rfl, (Below.refl _ _).alloc (Nat.le_refl _) _⟩
  simp [results, Tryd.results10, go_sem]
def qz : Cf := ⟨0, 1, 0, [], 0, false, [], []⟩
theorem rc_new (w : World) (s : ByteArray) : RC w.heap.size (w.heap.size + 1) ⟨w, [(w.heap.size, 0, 0)]⟩ ((w.alloc (.cells #[.int .i64 0, .int .i64 0] 36)).alloc (.cells #[.string s, .int .i64 1, .int .i64 0, .int .i64 0, .int .i64 0, .bool false, .slice none 0 0, .slice none 0 0] 56)) s qz 0 (.slice none 0 0) (.slice none 0 0) := by
  have h1 := heap_alloc_new (w.alloc (.cells #[.int .i64 0, .int .i64 0] 36)) (.cells #[.string s, .int .i64 1, .int .i64 0, .int .i64 0, .int .i64 0, .bool false, .slice none 0 0, .slice none 0 0] 56)
  refine ⟨?_, OwE.nil _ _, by omega, ?_, ?_⟩
  · simpa [Bx, qz] using h1
  · exact ((Below.refl _ _).alloc (Nat.le_refl _) _).alloc (by simp) _
  · intro j hj
    simp only [List.mem_singleton] at hj
    subst hj
    rw [(al_below (w.alloc (.cells #[.int .i64 0, .int .i64 0] 36)) _).block w.heap.size (by simp)]
    exact heap_alloc_new w _
set_option maxRecDepth 100000 in
set_option maxHeartbeats 4000000 in
theorem entries12_go (s : ByteArray) (w : World) (hs : s.size ≤ 65536) : Calls Tryd.prog 10 #[.string s] w (EnP w (entsF s.data.toList)) := by
  have hs' : ¬ (65536 : Int) < (s.size : Int) := by omega
  have hl : s.data.toList.length = s.size := by simp
  have HX : Hid (entsF s.data.toList = goF (linesF s.data.toList) (q0 s.data.toList) s.data.toList) := (by show _ = _; simp only [entsF, hl]; rw [if_neg (by omega)])
  rw [HX.out]
  have KB := Lib.hid (begin28 w.heap.size (w.heap.size + 1) ⟨w, [(w.heap.size, 0, 0)]⟩ _ s qz 0 _ _ 0 (rc_new w s) (by omega))
  have KR : Hid (∀ W wv ev wS, RS w.heap.size (w.heap.size + 1) ⟨w, [(w.heap.size, 0, 0)]⟩ W s (q0 s.data.toList) 0 wv ev wS → Calls Tryd.prog 26 #[.pointer (some ⟨w.heap.size + 1, 0, none⟩)] W (FnP w.heap.size (w.heap.size + 1) ⟨w, [(w.heap.size, 0, 0)]⟩ s (goF (linesF s.data.toList) (q0 s.data.toList) s.data.toList))) := fun W wv ev wS hW => run29 _ _ _ W s _ 0 wv ev wS hW (fun p hp => by simp only [List.mem_singleton] at hp; subst hp; have := hW.bx.lt; simp only; omega) (by omega) rfl ⟨by simp [q0], by simp [q0], by simp [q0], by simp [q0], by simp [q0]⟩
  have HE : Hid (∀ e l, goF (linesF s.data.toList) (q0 s.data.toList) s.data.toList = .er e l → e = 230 ∨ e = 3) := fun e l h => (ents_er (by rw [hl]; exact hs) (HX.out.trans h)).1
  generalize goF (linesF s.data.toList) (q0 s.data.toList) s.data.toList = G at *
  clear HX hl
  go_enter Tryd.func10, Tryd.ntmps10
  go_wp2_with fail
  refine KB.out.mono ?_
  rintro e w1 ⟨rfl, H1⟩
  obtain ⟨wS, hrs⟩ := H1.out
  have HRS : Hid (RS w.heap.size (w.heap.size + 1) ⟨w, [(w.heap.size, 0, 0)]⟩ w1 s (q0 s.data.toList) 0 (.slice none 0 0) (.slice none 0 0) wS) := (by show _; rw [List.drop_zero] at hrs; exact hrs)
  clear H1 hrs KB
  go_wp2_with fail
  refine (KR.out _ _ _ _ HRS.out).mono ?_
  rintro e w2 ⟨a, b, rfl, H2⟩
  cases G with
  | er e l =>
    obtain ⟨rfl, rfl, hfr⟩ := H2.out
    have HF := Lib.hid hfr
    have hJ := hfr.2 (w.heap.size, 0, 0) (by simp)
    have hJ2 : (w2.alloc (.cells #[.int .i64 a, .int .i64 b] 36)).heap[w.heap.size]? = some (.cells #[.int .i64 0, .int .i64 0] 36 (0, 0)) := ((al_below w2 _).block w.heap.size (rc_lt hJ)).trans hJ
    have n0 : ¬ (a : Int) = 0 := by have := HE.out a b rfl; omega
    have n1 : ((a : Int) == 0) = false := by simpa using n0
    have k0 := rc_c0 hJ2
    have k1 := rc_c1 hJ2
    have kf := rc_fz hJ2
    have kl := rc_lt hJ2
    have z0 := rc_c0 (rc_put hJ2 (.int .i64 a) (.int .i64 b))
    have z1 := rc_c1 (rc_put hJ2 (.int .i64 a) (.int .i64 b))
    have HFI : Hid (Below w.heap.size w (((w2.alloc (.cells #[.int .i64 a, .int .i64 b] 36)).setCell ⟨w.heap.size, 0, none⟩ (.int .i64 a)).setCell ⟨w.heap.size, 1, none⟩ (.int .i64 b)).drew) := ((((HF.out.1.alloc HF.out.1.size _)).setCell (p := ⟨w.heap.size, 0, none⟩) (Nat.le_refl _) _).setCell (p := ⟨w.heap.size, 1, none⟩) (Nat.le_refl _) _).drew
    clear H2 hfr hJ hJ2
    go_wp2_with fail
    go_region_law (fail)
    all_goals
      go_wp2_with fail
      refine bodyPost_ret (v := .tuple #[.slice none 0 0, .agg #[.int .i64 a, .int .i64 b]]) ?_ rfl ⟨_, a, b, rfl, rfl, rfl, rfl, HFI.out⟩
      simp [results, Tryd.results10, go_sem, z0, z1, k0, k1, kl]
  | ok es =>
    obtain ⟨rfl, rfl, q, st, wv, ev, hq, hrc⟩ := H2.out
    have hJ := hrc.bl.2 (w.heap.size, 0, 0) (by simp)
    have hJ2 : (w2.alloc (.cells #[.int .i64 0, .int .i64 0] 36)).heap[w.heap.size]? = some (.cells #[.int .i64 0, .int .i64 0] 36 (0, 0)) := ((al_below w2 _).block w.heap.size (rc_lt hJ)).trans hJ
    have r7 : (w2.alloc (.cells #[.int .i64 0, .int .i64 0] 36)).cell? ⟨w.heap.size + 1, 7, none⟩ = some ev := ((al_below w2 _).cell (p := ⟨w.heap.size + 1, 7, none⟩) hrc.bx.lt).trans hrc.bx.c7
    have k0 := rc_c0 hJ2
    have k1 := rc_c1 hJ2
    have kf := rc_fz hJ2
    have kl := rc_lt hJ2
    have z0 := rc_c0 (rc_put hJ2 (.int .i64 0) (.int .i64 0))
    have z1 := rc_c1 (rc_put hJ2 (.int .i64 0) (.int .i64 0))
    have HOW : Hid (OwE w.heap.size (((w2.alloc (.cells #[.int .i64 0, .int .i64 0] 36)).setCell ⟨w.heap.size, 0, none⟩ (.int .i64 0)).setCell ⟨w.heap.size, 1, none⟩ (.int .i64 0)) ev es) := (by
      show OwE _ _ _ _
      have h1 : OwE w.heap.size (w2.alloc (.cells #[.int .i64 0, .int .i64 0] 36)) ev es := by rw [← hq]; exact hrc.ow.stays (al_below w2 _)
      refine h1.go (by simp) (fun k _ hk => ?_)
      have hne : k ≠ w.heap.size := fun e => by
        obtain ⟨c, t, a1, a2⟩ := hk
        rw [e, hJ2] at a1; cases a1; simp at a2
      rw [Below.heap_setCell _ _ _ _ hne, Below.heap_setCell _ _ _ _ hne])
    have HFI : Hid (Below w.heap.size w (((w2.alloc (.cells #[.int .i64 0, .int .i64 0] 36)).setCell ⟨w.heap.size, 0, none⟩ (.int .i64 0)).setCell ⟨w.heap.size, 1, none⟩ (.int .i64 0))) := ((hrc.bl.1.alloc hrc.bl.1.size _).setCell (p := ⟨w.heap.size, 0, none⟩) (Nat.le_refl _) _).setCell (p := ⟨w.heap.size, 1, none⟩) (Nat.le_refl _) _
    clear H2 hrc hJ hJ2 hq
    go_wp2_with fail
    refine bodyPost_ret (v := .tuple #[ev, .agg #[.int .i64 0, .int .i64 0]]) ?_ rfl ⟨_, 0, 0, rfl, rfl, rfl, HOW.out, HFI.out⟩
    simp [results, Tryd.results10, go_sem, z0, z1, k0, k1, kl]
theorem entries12 (s : ByteArray) (w : World) : Calls Tryd.prog 10 #[.string s] w (EnP w (entsF s.data.toList)) := by
  by_cases h : s.size ≤ 65536
  · exact entries12_go s w h
  · exact entries12_long s w (by omega)
end Go.Proofs.YtgdkeafjglcgaaaDoor
