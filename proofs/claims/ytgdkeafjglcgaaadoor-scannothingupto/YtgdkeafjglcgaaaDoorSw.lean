/- The laws' words and Same, of the same twice. -/
import Derived.Test.YtgdkeafjglcgaaaDoorSq
import Derived.Deep.QuietTactic
namespace Go.Proofs.YtgdkeafjglcgaaaDoor
open Go.ChangeShapes Go.WideShapes Go.ChangeAt Go.RowKit
set_option linter.unusedVariables false
set_option linter.unusedSimpArgs false


theorem WRd.dn {w : World} {x : Sl} {ws : List Wd} (h : WRd w x ws) (n : Nat) : WRd (w.drewN n) x ws := h.below ⟨rfl, rfl, rfl, Nat.le_refl _, fun _ _ => rfl⟩
theorem LE.dn {w : World} {x : Sl} {es : List En} (h : LE w x es) (n : Nat) : LE (w.drewN n) x es := h.below ⟨rfl, rfl, rfl, Nat.le_refl _, fun _ _ => rfl⟩
set_option maxRecDepth 100000 in
set_option maxHeartbeats 1000000 in
theorem words27 (x y : Sl) (ws : List Wd) (w : World) (hx : WRd w x ws) (hy : WRd w y ws) :
    Calls Tryd.prog 11 #[.slice x.a x.n x.c, .slice y.a y.n y.c] w fun e w' => e = .returned (.bool true) ∧ ∃ m, w' = w.drewN m := by
  obtain ⟨xa, n, xc⟩ := x
  obtain ⟨ya, n2, yc⟩ := y
  obtain ⟨h1, h2, h3, h4⟩ := hx
  obtain ⟨k1, k2, k3, k4⟩ := hy
  simp only at *
  obtain rfl : n2 = n := by omega
  have hl : ws.length = n2 := h1.symm
  have hxc : n2 ≤ xc := by omega
  have hyc : n2 ≤ yc := by omega
  have HX : Hid (RdW w xa ws) := h4
  have HY : Hid (RdW w ya ws) := k4
  clear h1 h2 h4 k1 k2 k4
  go_enter Tryd.func11, Tryd.ntmps11
  go_wp2_with fail
  go_loopw [5] (fun y wr => ∃ k m : Nat, k ≤ n2 ∧ y = .int .i64 (k : Int) ∧ wr = w.drewN m) (fun y _ => n2 - (intOf y).toNat)
  case atStart => exact ⟨0, 0, Nat.zero_le _, rfl, rfl⟩
  case round =>
    obtain ⟨k, m, hk, rfl, rfl⟩ := hrel
    by_cases hlt : k < n2
    · have hlt' : (k : Int) < (n2 : Int) := by omega
      have hkl : k < ws.length := by omega
      obtain ⟨b1, o1, rfl, q1, c0, c1⟩ := HX.out.at k hkl
      obtain ⟨b2, o2, rfl, q2, d0, d1⟩ := HY.out.at k hkl
      generalize ws[k] = v at c0 c1 d0 d1
      have hq : ∀ W, (binOp .neq 44 (.agg #[.string v.1, .bool v.2]) (.agg #[.string v.1, .bool v.2])).run Tryd.prog W = .ok (.bool false) W := fun W => by rw [neqW]; simp
      go_wp2_with fail
      go_quiet (fail)
      go_wp2_with fail
      go_round
      case rel => exact ⟨k + 1, _, by omega, by go_num, rfl⟩
      case measure => simp [intOf]; omega
    · have hge : ¬ (k : Int) < (n2 : Int) := by omega
      go_wp2_with fail
      go_ret
      exact ⟨rfl, m, rfl⟩
set_option maxRecDepth 100000 in
set_option maxHeartbeats 1000000 in
theorem same9 (x y : Sl) (es : List En) (w : World) (hx : LE w x es) (hy : LE w y es) :
    Calls Tryd.prog 27 #[.slice x.a x.n x.c, .slice y.a y.n y.c] w fun e w' => e = .returned (.bool true) ∧ ∃ m, w' = w.drewN m := by
  obtain ⟨xa, n, xc⟩ := x
  obtain ⟨ya, n2, yc⟩ := y
  obtain ⟨h1, h2, h3, h4⟩ := hx
  obtain ⟨k1, k2, k3, k4⟩ := hy
  simp only at *
  obtain rfl : n2 = n := by omega
  have hl : es.length = n2 := h1.symm
  have hxc : n2 ≤ xc := by omega
  have hyc : n2 ≤ yc := by omega
  have HX : Hid (RdE w xa es) := h4
  have HY : Hid (RdE w ya es) := k4
  clear h1 h2 h4 k1 k2 k4
  go_enter Tryd.func27, Tryd.ntmps27
  go_wp2_with fail
  go_loopw [5] (fun y wr => ∃ k m : Nat, k ≤ n2 ∧ y = .int .i64 (k : Int) ∧ wr = w.drewN m) (fun y _ => n2 - (intOf y).toNat)
  case atStart => exact ⟨0, 0, Nat.zero_le _, rfl, rfl⟩
  case round =>
    obtain ⟨k, m, hk, rfl, hw⟩ := hrel
    have HW : Hid (wr = w.drewN m) := hw
    have HXr : Hid (RdE wr xa es) := (by show RdE _ _ _; rw [hw]; exact HX.out.below ⟨rfl, rfl, rfl, Nat.le_refl _, fun _ _ => rfl⟩)
    have HYr : Hid (RdE wr ya es) := (by show RdE _ _ _; rw [hw]; exact HY.out.below ⟨rfl, rfl, rfl, Nat.le_refl _, fun _ _ => rfl⟩)
    clear hw
    by_cases hlt : k < n2
    · have hlt' : (k : Int) < (n2 : Int) := by omega
      have hkl : k < es.length := by omega
      obtain ⟨b1, o1, rfl, q1, u, c0, c1, c2, hu⟩ := HXr.out.at k hkl
      obtain ⟨b2, o2, rfl, q2, v, d0, d1, d2, hv⟩ := HYr.out.at k hkl
      have K27 : Hid (∀ j, Calls Tryd.prog 11 #[.slice u.a u.n u.c, .slice v.a v.n v.c] (wr.drewN j) fun e w' => e = .returned (.bool true) ∧ ∃ m, w' = (wr.drewN j).drewN m) := fun j => words27 u v es[k].ws (wr.drewN j) (hu.dn j) (hv.dn j)
      clear hu hv
      obtain ⟨ua, un, uc⟩ := u
      obtain ⟨va, vn, vc⟩ := v
      simp only at c2 d2 K27
      generalize es[k] = en at c0 c1 d0 d1
      go_wp2_with fail
      go_quiet (first | (go_at_call 11; with_reducible exact Calls.quiet_of (K27.out _)) | fail)
      go_wp2_with fail
      go_round
      case rel => exact ⟨k + 1, m + nq, by omega, by go_num, (by rw [HW.out, World.drewN_drewN])⟩
      case measure => simp [intOf]; omega
    · have hge : ¬ (k : Int) < (n2 : Int) := by omega
      go_wp2_with fail
      go_ret
      exact ⟨rfl, m, HW.out⟩
end Go.Proofs.YtgdkeafjglcgaaaDoor
