/- What holds of each word, of some entry: eachWord, ContainsFunc. -/
import Derived.Test.YtgdkeafjglcgaaaDoorSp
namespace Go.Proofs.YtgdkeafjglcgaaaDoor
open Go.ChangeShapes Go.WideShapes Go.ChangeAt Go.RowKit
set_option linter.unusedVariables false
set_option linter.unusedSimpArgs false


/-- A list of entries that can be read. -/
def LE (w : World) (x : Sl) (es : List En) : Prop := x.n = es.length ∧ es.length ≤ x.c ∧ x.c ≤ 9223372036854775807 ∧ RdE w x.a es
theorem LE.rd {w : World} {x : Sl} {es : List En} (h : LE w x es) : RdE w x.a es := h.2.2.2
theorem LE.below {w w' : World} {x : Sl} {es : List En} (h : LE w x es) (hb : Below w.heap.size w w') : LE w' x es := ⟨h.1, h.2.1, h.2.2.1, h.2.2.2.below hb⟩
/-- A function of words that answers P, where D holds. -/
def AsksW (fn : Nat) (P : Wd → Bool) (D : Wd → Prop) : Prop := ∀ (v : Wd) (W : World), D v → Calls Tryd.prog fn #[.agg #[.string v.1, .bool v.2]] W fun e w' => e = .returned (.bool (P v)) ∧ Hid (Below W.heap.size W w')
/-- A function of entries that answers P. -/
def AsksE (fn : Nat) (P : En → Bool) : Prop := ∀ (x : Sl) (e : En) (W : World), x.n = e.ws.length → Calls Tryd.prog fn #[.agg #[.int .i64 e.line, .bool e.blank, .slice x.a x.n x.c]] W fun r w' => r = .returned (.bool (P e)) ∧ Hid (Below W.heap.size W w')
theorem all_snoc {α : Type} {P : α → Bool} {l : List α} {k : Nat} (hk : k < l.length) (h : ∀ r ∈ l.take k, P r = true) (h1 : P l[k] = true) : ∀ r ∈ l.take (k + 1), P r = true := by
  rw [List.take_succ_eq_append_getElem hk]
  intro r hr
  rcases List.mem_append.1 hr with hr | hr
  · exact h r hr
  · rw [List.mem_singleton.1 hr]; exact h1
theorem all_done {α : Type} {P : α → Bool} {l : List α} {k : Nat} (hk : l.length ≤ k) (h : ∀ r ∈ l.take k, P r = true) : l.all P = true := by
  rw [List.take_of_length_le hk] at h
  rw [List.all_eq_true]; exact h
theorem all_not {α : Type} {P : α → Bool} {l : List α} {k : Nat} (hk : k < l.length) (h1 : P l[k] = false) : l.all P = false := by
  rw [List.all_eq_false]
  exact ⟨l[k], List.getElem_mem hk, by simp [h1]⟩
set_option maxRecDepth 100000 in
set_option maxHeartbeats 2000000 in
theorem each17_18 (P : Wd → Bool) (D : Wd → Prop) (hP : AsksW 16 P D) (x : Sl) (es : List En) (w : World) (h : LE w x es) (hD : ∀ e ∈ es, ∀ v ∈ e.ws, D v) :
    Calls Tryd.prog 15 #[.slice x.a x.n x.c, .func (.func 16) #[] #[]] w fun e w' => e = .returned (.bool (es.all fun e => e.ws.all P)) ∧ Hid (Below w.heap.size w w') := by
  have HR : Hid (LE w x es) := h
  have HP : Hid (AsksW 16 P D) := hP
  have HD : Hid (∀ e ∈ es, ∀ v ∈ e.ws, D v) := hD
  have hl := h.1.symm
  have hcap : x.n ≤ x.c := (by have := h.1; have := h.2.1; omega)
  have hcap2 := h.2.2.1
  clear h hP hD
  obtain ⟨sa, n, sc⟩ := x
  simp only at *
  generalize hA : (es.all fun e => e.ws.all P) = A
  have HA : Hid ((es.all fun e => e.ws.all P) = A) := hA
  clear hA
  go_enter Tryd.func15, Tryd.ntmps15
  go_wp2_with fail
  go_loopw [11] (fun y wr => ∃ k : Nat, k ≤ n ∧ y = .int .i64 (k : Int) ∧ Hid ((∀ e ∈ es.take k, e.ws.all P = true) ∧ Below w.heap.size w wr)) (fun y _ => n - (intOf y).toNat)
  case atStart => exact ⟨0, Nat.zero_le _, rfl, fun r hr => (by simp at hr), Below.refl _ _⟩
  case round =>
    obtain ⟨k, hk, rfl, HW⟩ := hrel
    obtain ⟨wz, hwz⟩ : ∃ x, x = wr := ⟨_, rfl⟩
    subst hwz
    by_cases hlt : k < n
    · have hlt' : (k : Int) < (n : Int) := by omega
      have hkl : k < es.length := by omega
      obtain ⟨b, o, e0, hbb, y, c0, c1, c2, hy⟩ := (HR.out.rd.below HW.out.2).at k hkl
      simp only at e0
      subst e0
      have HDk : Hid (∀ v ∈ es[k].ws, D v) := HD.out es[k] (List.getElem_mem hkl)
      obtain ⟨ek, hek⟩ : ∃ e, e = es[k] := ⟨_, rfl⟩
      have HEK : Hid (ek = es[k]) := hek
      rw [← hek] at c0 c1 hy HDk
      clear hek
      obtain ⟨ya, m, yc⟩ := y
      obtain ⟨hm0, hmc0, hmc2, hrd⟩ := hy
      simp only at hm0 hmc0 hmc2 hrd c2
      have hm : ek.ws.length = m := hm0.symm
      have hmc : m ≤ yc := by omega
      clear hm0 hmc0
      have HRW : Hid (RdW wz ya ek.ws) := hrd
      have HB0 : Hid (Below wz.heap.size wz (wz.alloc (.cells #[.int .i64 ek.line, .bool ek.blank, .slice ya m yc] 34))) := alp_below _ _
      have HBW : Hid (Below w.heap.size w (wz.alloc (.cells #[.int .i64 ek.line, .bool ek.blank, .slice ya m yc] 34))) := HW.out.2.trans (HB0.out.mono HW.out.2.size)
      have HMZ : Hid (RdW (wz.alloc (.cells #[.int .i64 ek.line, .bool ek.blank, .slice ya m yc] 34)) ya ek.ws) := hrd.below HB0.out
      clear hrd
      obtain ⟨ws, hws⟩ : ∃ l, l = ek.ws := ⟨_, rfl⟩
      have HWS : Hid (ws = ek.ws) := hws
      rw [← hws] at hm HDk HMZ HRW
      clear hws
      go_wp2_with fail
      generalize wz.alloc (.cells #[.int .i64 ek.line, .bool ek.blank, .slice ya m yc] 34) = wy at *
      go_loopw [18] (fun y wr => ∃ j : Nat, j ≤ m ∧ y = .int .i64 (j : Int) ∧ Hid ((∀ v ∈ ws.take j, P v = true) ∧ Below wy.heap.size wy wr)) (fun y _ => m - (intOf y).toNat)
      case atStart => exact ⟨0, Nat.zero_le _, rfl, fun r hr => (by simp at hr), Below.refl _ _⟩
      case round =>
        obtain ⟨j, hj, rfl, HV⟩ := hrel
        by_cases hjl : j < m
        · have hjl' : (j : Int) < (m : Int) := by omega
          have hjw : j < ws.length := by omega
          obtain ⟨b2, o2, e2, hb2, d0, d1⟩ := (HMZ.out.below HV.out.2).at j hjw
          subst e2
          have HDj : Hid (D ws[j]) := HDk.out ws[j] (List.getElem_mem hjw)
          obtain ⟨v, hv⟩ : ∃ v, v = ws[j] := ⟨_, rfl⟩
          have HVV : Hid (v = ws[j]) := hv
          rw [← hv] at d0 d1 HDj
          clear hv
          have KA : Hid (∀ W, Calls Tryd.prog 16 #[.agg #[.string v.1, .bool v.2]] W fun e w' => e = .returned (.bool (P v)) ∧ Hid (Below W.heap.size W w')) := fun W => HP.out v W HDj.out
          have HB2 : Hid (Below wr.heap.size wr (wr.alloc (.cells #[.string v.1, .bool v.2] 44))) := alp_below _ _
          cases hq : P v with
          | true =>
            have HQ : Hid (P ws[j] = true) := (by show _ = _; rw [← HVV.out]; exact hq)
            simp only [hq] at KA
            clear hq
            go_wp2_with fail
            refine (KA.out _).mono ?_
            rintro e w2 ⟨rfl, H2⟩
            have HB3 : Hid (Below wy.heap.size wy w2) := HV.out.2.trans ((HB2.out.trans (H2.out.mono HB2.out.size)).mono HV.out.2.size)
            go_wp2_with fail
            go_round
            case rel => exact ⟨j + 1, by omega, by go_num, all_snoc hjw HV.out.1 HQ.out, HB3.out⟩
            case measure => simp [intOf]; omega
          | false =>
            have HQ : Hid (P ws[j] = false) := (by show _ = _; rw [← HVV.out]; exact hq)
            simp only [hq] at KA
            clear hq
            go_wp2_with fail
            refine (KA.out _).mono ?_
            rintro e w2 ⟨rfl, H2⟩
            have HB3 : Hid (Below wy.heap.size wy w2) := HV.out.2.trans ((HB2.out.trans (H2.out.mono HB2.out.size)).mono HV.out.2.size)
            go_wp2_with fail
            go_ret
            refine ⟨?_, HBW.out.trans (HB3.out.mono HBW.out.size)⟩
            have e1 : es[k].ws.all P = false := by rw [← HEK.out, ← HWS.out]; exact all_not hjw HQ.out
            have : A = false := by rw [← HA.out]; exact all_not (P := fun e : En => e.ws.all P) hkl e1
            rw [this]; rfl
        · have hge : ¬ (j : Int) < (m : Int) := by omega
          have HK : Hid (es[k].ws.all P = true) := (by show _ = _; rw [← HEK.out, ← HWS.out]; exact all_done (by omega) HV.out.1)
          go_wp2_with fail
          go_round
          case rel => exact ⟨k + 1, by omega, by go_num, all_snoc (P := fun e : En => e.ws.all P) hkl HW.out.1 HK.out, HBW.out.trans (HV.out.2.mono HBW.out.size)⟩
          case measure => simp [intOf]; omega
    · have hge : ¬ (k : Int) < (n : Int) := by omega
      have HT : Hid (A = true) := (by show _ = _; rw [← HA.out]; exact all_done (by omega) HW.out.1)
      go_wp2_with fail
      go_ret
      exact ⟨by rw [HT.out]; rfl, HW.out.2⟩
set_option maxRecDepth 100000 in
set_option maxHeartbeats 2000000 in
theorem each17_20 (P : Wd → Bool) (D : Wd → Prop) (hP : AsksW 18 P D) (x : Sl) (es : List En) (w : World) (h : LE w x es) (hD : ∀ e ∈ es, ∀ v ∈ e.ws, D v) :
    Calls Tryd.prog 15 #[.slice x.a x.n x.c, .func (.func 18) #[] #[]] w fun e w' => e = .returned (.bool (es.all fun e => e.ws.all P)) ∧ Hid (Below w.heap.size w w') := by
  have HR : Hid (LE w x es) := h
  have HP : Hid (AsksW 18 P D) := hP
  have HD : Hid (∀ e ∈ es, ∀ v ∈ e.ws, D v) := hD
  have hl := h.1.symm
  have hcap : x.n ≤ x.c := (by have := h.1; have := h.2.1; omega)
  have hcap2 := h.2.2.1
  clear h hP hD
  obtain ⟨sa, n, sc⟩ := x
  simp only at *
  generalize hA : (es.all fun e => e.ws.all P) = A
  have HA : Hid ((es.all fun e => e.ws.all P) = A) := hA
  clear hA
  go_enter Tryd.func15, Tryd.ntmps15
  go_wp2_with fail
  go_loopw [11] (fun y wr => ∃ k : Nat, k ≤ n ∧ y = .int .i64 (k : Int) ∧ Hid ((∀ e ∈ es.take k, e.ws.all P = true) ∧ Below w.heap.size w wr)) (fun y _ => n - (intOf y).toNat)
  case atStart => exact ⟨0, Nat.zero_le _, rfl, fun r hr => (by simp at hr), Below.refl _ _⟩
  case round =>
    obtain ⟨k, hk, rfl, HW⟩ := hrel
    obtain ⟨wz, hwz⟩ : ∃ x, x = wr := ⟨_, rfl⟩
    subst hwz
    by_cases hlt : k < n
    · have hlt' : (k : Int) < (n : Int) := by omega
      have hkl : k < es.length := by omega
      obtain ⟨b, o, e0, hbb, y, c0, c1, c2, hy⟩ := (HR.out.rd.below HW.out.2).at k hkl
      simp only at e0
      subst e0
      have HDk : Hid (∀ v ∈ es[k].ws, D v) := HD.out es[k] (List.getElem_mem hkl)
      obtain ⟨ek, hek⟩ : ∃ e, e = es[k] := ⟨_, rfl⟩
      have HEK : Hid (ek = es[k]) := hek
      rw [← hek] at c0 c1 hy HDk
      clear hek
      obtain ⟨ya, m, yc⟩ := y
      obtain ⟨hm0, hmc0, hmc2, hrd⟩ := hy
      simp only at hm0 hmc0 hmc2 hrd c2
      have hm : ek.ws.length = m := hm0.symm
      have hmc : m ≤ yc := by omega
      clear hm0 hmc0
      have HRW : Hid (RdW wz ya ek.ws) := hrd
      have HB0 : Hid (Below wz.heap.size wz (wz.alloc (.cells #[.int .i64 ek.line, .bool ek.blank, .slice ya m yc] 34))) := alp_below _ _
      have HBW : Hid (Below w.heap.size w (wz.alloc (.cells #[.int .i64 ek.line, .bool ek.blank, .slice ya m yc] 34))) := HW.out.2.trans (HB0.out.mono HW.out.2.size)
      have HMZ : Hid (RdW (wz.alloc (.cells #[.int .i64 ek.line, .bool ek.blank, .slice ya m yc] 34)) ya ek.ws) := hrd.below HB0.out
      clear hrd
      obtain ⟨ws, hws⟩ : ∃ l, l = ek.ws := ⟨_, rfl⟩
      have HWS : Hid (ws = ek.ws) := hws
      rw [← hws] at hm HDk HMZ HRW
      clear hws
      go_wp2_with fail
      generalize wz.alloc (.cells #[.int .i64 ek.line, .bool ek.blank, .slice ya m yc] 34) = wy at *
      go_loopw [18] (fun y wr => ∃ j : Nat, j ≤ m ∧ y = .int .i64 (j : Int) ∧ Hid ((∀ v ∈ ws.take j, P v = true) ∧ Below wy.heap.size wy wr)) (fun y _ => m - (intOf y).toNat)
      case atStart => exact ⟨0, Nat.zero_le _, rfl, fun r hr => (by simp at hr), Below.refl _ _⟩
      case round =>
        obtain ⟨j, hj, rfl, HV⟩ := hrel
        by_cases hjl : j < m
        · have hjl' : (j : Int) < (m : Int) := by omega
          have hjw : j < ws.length := by omega
          obtain ⟨b2, o2, e2, hb2, d0, d1⟩ := (HMZ.out.below HV.out.2).at j hjw
          subst e2
          have HDj : Hid (D ws[j]) := HDk.out ws[j] (List.getElem_mem hjw)
          obtain ⟨v, hv⟩ : ∃ v, v = ws[j] := ⟨_, rfl⟩
          have HVV : Hid (v = ws[j]) := hv
          rw [← hv] at d0 d1 HDj
          clear hv
          have KA : Hid (∀ W, Calls Tryd.prog 18 #[.agg #[.string v.1, .bool v.2]] W fun e w' => e = .returned (.bool (P v)) ∧ Hid (Below W.heap.size W w')) := fun W => HP.out v W HDj.out
          have HB2 : Hid (Below wr.heap.size wr (wr.alloc (.cells #[.string v.1, .bool v.2] 44))) := alp_below _ _
          cases hq : P v with
          | true =>
            have HQ : Hid (P ws[j] = true) := (by show _ = _; rw [← HVV.out]; exact hq)
            simp only [hq] at KA
            clear hq
            go_wp2_with fail
            refine (KA.out _).mono ?_
            rintro e w2 ⟨rfl, H2⟩
            have HB3 : Hid (Below wy.heap.size wy w2) := HV.out.2.trans ((HB2.out.trans (H2.out.mono HB2.out.size)).mono HV.out.2.size)
            go_wp2_with fail
            go_round
            case rel => exact ⟨j + 1, by omega, by go_num, all_snoc hjw HV.out.1 HQ.out, HB3.out⟩
            case measure => simp [intOf]; omega
          | false =>
            have HQ : Hid (P ws[j] = false) := (by show _ = _; rw [← HVV.out]; exact hq)
            simp only [hq] at KA
            clear hq
            go_wp2_with fail
            refine (KA.out _).mono ?_
            rintro e w2 ⟨rfl, H2⟩
            have HB3 : Hid (Below wy.heap.size wy w2) := HV.out.2.trans ((HB2.out.trans (H2.out.mono HB2.out.size)).mono HV.out.2.size)
            go_wp2_with fail
            go_ret
            refine ⟨?_, HBW.out.trans (HB3.out.mono HBW.out.size)⟩
            have e1 : es[k].ws.all P = false := by rw [← HEK.out, ← HWS.out]; exact all_not hjw HQ.out
            have : A = false := by rw [← HA.out]; exact all_not (P := fun e : En => e.ws.all P) hkl e1
            rw [this]; rfl
        · have hge : ¬ (j : Int) < (m : Int) := by omega
          have HK : Hid (es[k].ws.all P = true) := (by show _ = _; rw [← HEK.out, ← HWS.out]; exact all_done (by omega) HV.out.1)
          go_wp2_with fail
          go_round
          case rel => exact ⟨k + 1, by omega, by go_num, all_snoc (P := fun e : En => e.ws.all P) hkl HW.out.1 HK.out, HBW.out.trans (HV.out.2.mono HBW.out.size)⟩
          case measure => simp [intOf]; omega
    · have hge : ¬ (k : Int) < (n : Int) := by omega
      have HT : Hid (A = true) := (by show _ = _; rw [← HA.out]; exact all_done (by omega) HW.out.1)
      go_wp2_with fail
      go_ret
      exact ⟨by rw [HT.out]; rfl, HW.out.2⟩
set_option maxRecDepth 100000 in
set_option maxHeartbeats 2000000 in
theorem index62_39 (P : En → Bool) (hP : AsksE 31 P) (x : Sl) (es : List En) (w : World) (h : LE w x es) :
    Calls Tryd.prog 53 #[.slice x.a x.n x.c, .func (.func 31) #[] #[]] w fun e w' => ∃ z : Int, e = .returned (.int .i64 z) ∧ Hid (decide (0 ≤ z) = es.any P) ∧ Hid (Below w.heap.size w w') := by
  have HR : Hid (LE w x es) := h
  have HP : Hid (AsksE 31 P) := hP
  have hl := h.1.symm
  have hcap : x.n ≤ x.c := (by have := h.1; have := h.2.1; omega)
  have hcap2 := h.2.2.1
  clear h hP
  obtain ⟨sa, n, sc⟩ := x
  simp only at *
  go_enter Tryd.func53, Tryd.ntmps53
  go_wp2_with fail
  go_loopw [8] (fun y wr => ∃ k : Nat, k ≤ n ∧ y = .int .i64 (k : Int) ∧ Hid ((∀ e ∈ es.take k, (!P e) = true) ∧ Below w.heap.size w wr)) (fun y _ => n - (intOf y).toNat)
  case atStart => exact ⟨0, Nat.zero_le _, rfl, fun r hr => (by simp at hr), Below.refl _ _⟩
  case round =>
    obtain ⟨k, hk, rfl, HW⟩ := hrel
    by_cases hlt : k < n
    · have hlt' : (k : Int) < (n : Int) := by omega
      have hkl : k < es.length := by omega
      obtain ⟨b, o, e0, hbb, y, c0, c1, c2, hy⟩ := (HR.out.rd.below HW.out.2).at k hkl
      simp only at e0
      subst e0
      have KA := Lib.hid (HP.out y es[k] wr hy.1)
      cases hq : P es[k] with
      | false =>
        have HQ : Hid ((!P es[k]) = true) := (by show _ = _; rw [hq]; rfl)
        simp only [hq] at KA
        clear hy hq
        go_wp2_with fail
        refine KA.out.mono ?_
        rintro e w2 ⟨rfl, H2⟩
        have HB2 : Hid (Below w.heap.size w w2) := HW.out.2.trans (H2.out.mono HW.out.2.size)
        go_wp2_with fail
        go_round
        case rel => exact ⟨k + 1, by omega, by go_num, all_snoc (P := fun e => !P e) hkl HW.out.1 HQ.out, HB2.out⟩
        case measure => simp [intOf]; omega
      | true =>
        have HQ : Hid (es.any P = true) := (by show _ = _; rw [List.any_eq_true]; exact ⟨es[k], List.getElem_mem hkl, hq⟩)
        simp only [hq] at KA
        clear hy hq
        go_wp2_with fail
        refine KA.out.mono ?_
        rintro e w2 ⟨rfl, H2⟩
        have HB2 : Hid (Below w.heap.size w w2) := HW.out.2.trans (H2.out.mono HW.out.2.size)
        go_wp2_with fail
        go_ret
        exact ⟨_, rfl, (by show _ = _; rw [HQ.out]; simp), HB2⟩
    · have hge : ¬ (k : Int) < (n : Int) := by omega
      have HA : Hid (es.any P = false) := by
        have := all_done (P := fun e => !P e) (l := es) (by omega) HW.out.1
        show _ = _
        rw [List.any_eq_false]
        rw [List.all_eq_true] at this
        intro e he
        have := this e he
        simpa using this
      go_wp2_with fail
      go_ret
      exact ⟨_, rfl, (by show _ = _; rw [HA.out]; rfl), HW.out.2⟩
set_option maxRecDepth 100000 in
set_option maxHeartbeats 1000000 in
theorem contains38_39 (P : En → Bool) (hP : AsksE 31 P) (x : Sl) (es : List En) (w : World) (h : LE w x es) :
    Calls Tryd.prog 30 #[.slice x.a x.n x.c, .func (.func 31) #[] #[]] w fun e w' => e = .returned (.bool (es.any P)) ∧ Hid (Below w.heap.size w w') := by
  have K := Lib.hid (index62_39 P hP x es w h)
  generalize es.any P = A at *
  clear h hP
  go_enter Tryd.func30, Tryd.ntmps30
  go_wp2_with fail
  refine K.out.mono ?_
  rintro e w1 ⟨z, rfl, HZ, H1⟩
  cases A with
  | true =>
    have hz : (0 : Int) ≤ z := of_decide_eq_true HZ.out
    go_wp2_with fail
    go_ret
    exact ⟨by simp [hz], H1⟩
  | false =>
    have hz : ¬ (0 : Int) ≤ z := of_decide_eq_false HZ.out
    go_wp2_with fail
    go_ret
    exact ⟨by simp [hz], H1⟩
set_option maxRecDepth 100000 in
set_option maxHeartbeats 2000000 in
theorem index62_41 (P : En → Bool) (hP : AsksE 33 P) (x : Sl) (es : List En) (w : World) (h : LE w x es) :
    Calls Tryd.prog 53 #[.slice x.a x.n x.c, .func (.func 33) #[] #[]] w fun e w' => ∃ z : Int, e = .returned (.int .i64 z) ∧ Hid (decide (0 ≤ z) = es.any P) ∧ Hid (Below w.heap.size w w') := by
  have HR : Hid (LE w x es) := h
  have HP : Hid (AsksE 33 P) := hP
  have hl := h.1.symm
  have hcap : x.n ≤ x.c := (by have := h.1; have := h.2.1; omega)
  have hcap2 := h.2.2.1
  clear h hP
  obtain ⟨sa, n, sc⟩ := x
  simp only at *
  go_enter Tryd.func53, Tryd.ntmps53
  go_wp2_with fail
  go_loopw [8] (fun y wr => ∃ k : Nat, k ≤ n ∧ y = .int .i64 (k : Int) ∧ Hid ((∀ e ∈ es.take k, (!P e) = true) ∧ Below w.heap.size w wr)) (fun y _ => n - (intOf y).toNat)
  case atStart => exact ⟨0, Nat.zero_le _, rfl, fun r hr => (by simp at hr), Below.refl _ _⟩
  case round =>
    obtain ⟨k, hk, rfl, HW⟩ := hrel
    by_cases hlt : k < n
    · have hlt' : (k : Int) < (n : Int) := by omega
      have hkl : k < es.length := by omega
      obtain ⟨b, o, e0, hbb, y, c0, c1, c2, hy⟩ := (HR.out.rd.below HW.out.2).at k hkl
      simp only at e0
      subst e0
      have KA := Lib.hid (HP.out y es[k] wr hy.1)
      cases hq : P es[k] with
      | false =>
        have HQ : Hid ((!P es[k]) = true) := (by show _ = _; rw [hq]; rfl)
        simp only [hq] at KA
        clear hy hq
        go_wp2_with fail
        refine KA.out.mono ?_
        rintro e w2 ⟨rfl, H2⟩
        have HB2 : Hid (Below w.heap.size w w2) := HW.out.2.trans (H2.out.mono HW.out.2.size)
        go_wp2_with fail
        go_round
        case rel => exact ⟨k + 1, by omega, by go_num, all_snoc (P := fun e => !P e) hkl HW.out.1 HQ.out, HB2.out⟩
        case measure => simp [intOf]; omega
      | true =>
        have HQ : Hid (es.any P = true) := (by show _ = _; rw [List.any_eq_true]; exact ⟨es[k], List.getElem_mem hkl, hq⟩)
        simp only [hq] at KA
        clear hy hq
        go_wp2_with fail
        refine KA.out.mono ?_
        rintro e w2 ⟨rfl, H2⟩
        have HB2 : Hid (Below w.heap.size w w2) := HW.out.2.trans (H2.out.mono HW.out.2.size)
        go_wp2_with fail
        go_ret
        exact ⟨_, rfl, (by show _ = _; rw [HQ.out]; simp), HB2⟩
    · have hge : ¬ (k : Int) < (n : Int) := by omega
      have HA : Hid (es.any P = false) := by
        have := all_done (P := fun e => !P e) (l := es) (by omega) HW.out.1
        show _ = _
        rw [List.any_eq_false]
        rw [List.all_eq_true] at this
        intro e he
        have := this e he
        simpa using this
      go_wp2_with fail
      go_ret
      exact ⟨_, rfl, (by show _ = _; rw [HA.out]; rfl), HW.out.2⟩
set_option maxRecDepth 100000 in
set_option maxHeartbeats 1000000 in
theorem contains38_41 (P : En → Bool) (hP : AsksE 33 P) (x : Sl) (es : List En) (w : World) (h : LE w x es) :
    Calls Tryd.prog 30 #[.slice x.a x.n x.c, .func (.func 33) #[] #[]] w fun e w' => e = .returned (.bool (es.any P)) ∧ Hid (Below w.heap.size w w') := by
  have K := Lib.hid (index62_41 P hP x es w h)
  generalize es.any P = A at *
  clear h hP
  go_enter Tryd.func30, Tryd.ntmps30
  go_wp2_with fail
  refine K.out.mono ?_
  rintro e w1 ⟨z, rfl, HZ, H1⟩
  cases A with
  | true =>
    have hz : (0 : Int) ≤ z := of_decide_eq_true HZ.out
    go_wp2_with fail
    go_ret
    exact ⟨by simp [hz], H1⟩
  | false =>
    have hz : ¬ (0 : Int) ≤ z := of_decide_eq_false HZ.out
    go_wp2_with fail
    go_ret
    exact ⟨by simp [hz], H1⟩
set_option maxRecDepth 100000 in
set_option maxHeartbeats 400000 in
theorem asks39 : AsksE 31 (fun e => e.ws.isEmpty) := by
  intro x e w hx
  obtain ⟨xa, n, xc⟩ := x
  simp only at hx ⊢
  have HB : Hid (Below w.heap.size w (w.alloc (.cells #[.int .i64 e.line, .bool e.blank, .slice xa n xc] 34))) := alp_below _ _
  have HE : Hid (e.ws.isEmpty = decide (n = 0)) := (by show _ = _; rw [hx]; cases e.ws <;> simp)
  rw [HE.out]
  clear HE hx
  go_enter Tryd.func31, Tryd.ntmps31
  go_wp2_with fail
  go_ret
  refine ⟨?_, HB.out⟩
  by_cases h : n = 0
  · subst h; rfl
  · have : ¬ (n : Int) = 0 := by omega
    simp [h, this]
set_option maxRecDepth 100000 in
set_option maxHeartbeats 400000 in
theorem asks41 : AsksE 33 (fun e => decide (64 < e.ws.length)) := by
  intro x e w hx
  obtain ⟨xa, n, xc⟩ := x
  simp only at hx ⊢
  have HB : Hid (Below w.heap.size w (w.alloc (.cells #[.int .i64 e.line, .bool e.blank, .slice xa n xc] 34))) := alp_below _ _
  rw [← hx]
  clear hx
  go_enter Tryd.func33, Tryd.ntmps33
  go_wp2_with fail
  go_ret
  refine ⟨?_, HB.out⟩
  by_cases h : 64 < n
  · have : (64 : Int) < (n : Int) := by omega
    simp [h, this]
  · have : ¬ (64 : Int) < (n : Int) := by omega
    simp [h, this]
set_option maxRecDepth 100000 in
set_option maxHeartbeats 400000 in
theorem has19 (x : Sl) (es : List En) (w : World) (h : LE w x es) : Calls Tryd.prog 17 #[.slice x.a x.n x.c] w fun e w' => e = .returned (.bool (!(es.any fun e => e.ws.isEmpty))) ∧ Hid (Below w.heap.size w w') := by
  have K := Lib.hid (contains38_39 _ asks39 x es w h)
  clear h
  generalize (es.any fun e => e.ws.isEmpty) = A at *
  go_enter Tryd.func17, Tryd.ntmps17
  go_wp2_with fail
  refine K.out.mono ?_
  rintro e w1 ⟨rfl, H1⟩
  go_wp2_with fail
  go_ret
  exact ⟨rfl, H1⟩
set_option maxRecDepth 100000 in
set_option maxHeartbeats 400000 in
theorem many21 (x : Sl) (es : List En) (w : World) (h : LE w x es) : Calls Tryd.prog 19 #[.slice x.a x.n x.c] w fun e w' => e = .returned (.bool (es.any fun e => decide (64 < e.ws.length))) ∧ Hid (Below w.heap.size w w') := by
  have K := Lib.hid (contains38_41 _ asks41 x es w h)
  clear h
  generalize (es.any fun e => decide (64 < e.ws.length)) = A at *
  go_enter Tryd.func19, Tryd.ntmps19
  go_wp2_with fail
  refine K.out.mono ?_
  rintro e w1 ⟨rfl, H1⟩
  go_wp2_with fail
  go_ret
  exact ⟨rfl, H1⟩
end Go.Proofs.YtgdkeafjglcgaaaDoor
