/- The document's Read, whole. -/
import Derived.Test.YtfnpiknobmecbaaSqd
namespace Go.Proofs.Ytfnpiknobmecbaa
open Go.ChangeShapes Go.WideShapes Go.ChangeAt Go.RowKit
set_option linter.unusedVariables false
set_option linter.unusedSimpArgs false

/-- The place behind as the document has it. -/
def nxI : Option Nat → Int
  | none => -1
  | some q => q
theorem nck_snoc {out : List ByteArray} {s : ByteArray} (h : nck out = 0) (hs : 1 ≤ s.size ∧ s.size ≤ 63) : nck (out ++ [s]) = 0 ↔ nsz (out ++ [s]) ≤ 255 := by
  constructor
  · intro h'; exact (nck_small h').1
  · intro h'
    refine nck_of h' ?_
    intro x hx
    rcases List.mem_append.1 hx with hx | hx
    · exact (nck_small h).2 x hx
    · simp at hx; subst hx; unfold chk; rw [if_pos hs]
set_option maxRecDepth 100000 in
set_option maxHeartbeats 4000000 in
theorem rread_in (a : Option Addr) (len cap d : Nat) (back : Bool) (zs : List Int) (w : World) (hr : Rd w a zs) (hl : zs.length = len) (hm : len ≤ 140737488355328) (hc : len ≤ cap) (hc2 : cap ≤ 9223372036854775807) (hd : d ≤ len) :
    Calls Try.prog 18 #[.slice a len cap, .int .i64 d, .bool back] w (SPost (qres (qgo zs back d d none [])) w) := by
  obtain ⟨R, hR⟩ : ∃ R, qgo zs back d d none [] = R := ⟨_, rfl⟩
  have HR0 : Hid (qgo zs back d d none [] = R) := hR
  rw [hR]
  clear hR
  have HR : Hid (Rd w a zs) := hr
  have HL : Hid (zs.length = len) := hl
  clear hr hl
  have hd1 : ¬ (d : Int) < 0 := by omega
  have hd2 : (d : Int) ≤ (len : Int) := by omega
  have hd3 : ¬ len < d := by omega
  go_enter Try.func18, Try.ntmps18
  go_wp2
  go_loopw [1, 9, 10, 11] (fun x1 v x10 x11 wr => ∃ (p st : Nat) (B : Int) (bh : Option Nat) (out : List ByteArray), x1 = .int .i64 p ∧ x10 = .int .i64 st ∧ x11 = .int .i64 B ∧ p ≤ len ∧ st ≤ len ∧ -1 ≤ B ∧ B ≤ len ∧ Hid (B = nxI bh) ∧ Hid (qgo zs back p st bh out = R) ∧ Hid (nck out = 0) ∧ Hid (∃ ys, OwnT w.heap.size wr v out.length ys 1000 ∧ ys.take out.length = out) ∧ Hid (Below w.heap.size w wr))
    (fun x1 _ x10 _ _ => (intOf x10).toNat * (len + 2) + (len + 1 - (intOf x1).toNat))
  case atStart => exact ⟨d, d, -1, none, [], rfl, rfl, rfl, hd, hd, by omega, by omega, rfl, HR0, nck_nil, ⟨[], OwnT.nil _ _ _, rfl⟩, Below.refl _ _⟩
  case round =>
    obtain ⟨p, st, B, bh, out, rfl, rfl, rfl, hp, hst, hBm, hBl, HBH, HQ, HC, HW, HB⟩ := hrel
    clear HR0
    by_cases hpl : p < len
    · have hpl' : (p : Int) < (len : Int) := by omega
      have hpz : p < zs.length := by rw [HL.out]; exact hpl
      have hbd := HR.out.bd p
      by_cases h0 : zs.getD p 0 = 0
      · have e : R = some (out, bh.getD (p + 1)) := by rw [← HQ.out]; exact qgo_end hpz h0
        subst e
        obtain ⟨b, o, rfl, hbo, hcz⟩ := rd_at HR.out p hpz
        have hcz2 := cell_below HB.out hbo hcz
        rw [h0] at hcz2
        obtain ⟨ys, hO, hT⟩ := HW.out
        clear hcz HQ HR
        by_cases hB0 : B < 0
        · have e2 : bh.getD (p + 1) = p + 1 := by
            cases hh : bh with
            | none => rfl
            | some q => have h1 := HBH.out; rw [hh] at h1; simp only [nxI] at h1; omega
          have HE : Hid (qres (some (out, bh.getD (p + 1))) = (out, ((p + 1 : Nat) : Int), 0)) := (show _ = _ by rw [e2]; rfl)
          clear e2
          go_wp2_with fail
          go_ret3
          rw [HE.out]
          exact ⟨_, ys, by go_num, hO, hT, HB.out⟩
        · have e2 : ((bh.getD (p + 1) : Nat) : Int) = B := by
            cases hh : bh with
            | none => have h1 := HBH.out; rw [hh] at h1; simp only [nxI] at h1; omega
            | some q => have h1 := HBH.out; rw [hh] at h1; exact h1.symm
          have HE : Hid (qres (some (out, bh.getD (p + 1))) = (out, (B : Int), 0)) := (show _ = _ by rw [← e2]; rfl)
          clear e2
          go_wp2_with fail
          go_ret3
          rw [HE.out]
          exact ⟨_, ys, rfl, hO, hT, HB.out⟩
      · obtain ⟨b, o, rfl, hbo, hcz⟩ := rd_at HR.out p hpz
        have hcz2 := cell_below HB.out hbo hcz
        clear hcz
        obtain ⟨c, hcc⟩ : ∃ c : Nat, zs.getD p 0 = (c : Int) := ⟨(zs.getD p 0).toNat, by omega⟩
        have HCC : Hid (zs.getD p 0 = (c : Int)) := hcc
        have HG0 : Hid (¬ zs.getD p 0 = 0) := h0
        rw [hcc] at hcz2 hbd h0
        have hc0 : ((c : Int) == 0) = false := by simpa using h0
        have hc255 : c ≤ 255 := by omega
        by_cases h63 : c ≤ 63
        · have HG1 : Hid (zs.getD p 0 ≤ 63) := (by show zs.getD p 0 ≤ 63; rw [hcc]; omega)
          have hc63 : (c : Int) ≤ 63 := by omega
          by_cases hfit : p + 1 + c ≤ len
          · have hsl := qlab_size (l := zs) (p := p + 1) (n := c) (by rw [HL.out]; exact hfit)
            have hcap : p + 1 < cap := by omega
            have hfit2 : (p : Int) + 1 + (c : Int) ≤ (len : Int) := by omega
            have HRs : Hid (Rd w (some ⟨b, o + (p + 1), none⟩) ((zs.drop (p + 1)).take c)) := HR.out.cut (p + 1) c (by rw [HL.out]; omega) (fun h b' o' e => by cases e; rfl)
            have hcv : (convert 27 9 (.slice (some ⟨b, o + (p + 1), none⟩) c (cap - (p + 1)))).run Try.prog wr = .ok (.string (qlab zs (p + 1) c)) wr := conv_rd _ _ _ _ _ (HRs.out.below HB.out) (by simp; have := HL.out; omega)
            have HKn : Hid (∀ W a' c', RdT W a' (out ++ [qlab zs (p + 1) c]) → Calls Try.prog 40 #[.slice a' (out.length + 1) c'] W fun e w' => e = .returned (.int .i64 ((nsz (out ++ [qlab zs (p + 1) c]) : Nat) : Int)) ∧ w' = W) := fun W a' c' hW => refsize_any a' _ c' _ W hW (by simp) (by rw [nsz_snoc, hsl]; have := (nck_small HC.out).1; omega)
            have hol := nck_len HC.out
            have hns := nck_snoc (s := qlab zs (p + 1) c) HC.out (by rw [hsl]; omega)
            have hc192 : (c : Int) < 192 := by omega
            obtain ⟨N, hN⟩ : ∃ N, nsz (out ++ [qlab zs (p + 1) c]) = N := ⟨_, rfl⟩
            rw [hN] at hns HKn
            have HG2 : Hid (p + 1 + (zs.getD p 0).toNat ≤ zs.length) := (by show _ ≤ _; rw [HCC.out, HL.out]; simpa using hfit)
            have e1 : (zs.getD p 0).toNat = c := by rw [HCC.out]; simp
            by_cases hk : nck (out ++ [qlab zs (p + 1) c]) = 0
            · have HQ2 : Hid (qgo zs back (p + 1 + c) st bh (out ++ [qlab zs (p + 1) c]) = R) := (show _ = _ by rw [← HQ.out, qgo_lab hpz HG0.out HG1.out HG2.out (by rw [e1]; exact hk), e1])
              have HC2 : Hid (nck (out ++ [qlab zs (p + 1) c]) = 0) := hk
              have hN255 : N ≤ 255 := hns.1 hk
              clear hns hN
              generalize qlab zs (p + 1) c = s at *
              obtain ⟨ys, hO, hT⟩ := HW.out
              have hnb : Below wr.heap.size wr (wr.alloc (.cells #[.string s] 9)) := new_below _ _
              have HO2 : Hid (OwnT w.heap.size (wr.alloc (.cells #[.string s] 9)) u9 out.length ys 1000 ∧ ys.take out.length = out) := ⟨hO.below hnb, hT⟩
              have HNB : Hid (Below wr.heap.size wr (wr.alloc (.cells #[.string s] 9))) := hnb
              clear hO hT hnb HQ HR HG0 HG1 HG2 HCC hcc hbd hk e1
              go_wp2_with (at_builtin; refine wpList_append_T tyN _ rfl _ _ 33 9 Try.underlying33 rfl w.heap.size _ out.length ys 1000 rfl HO2.out.1 (some ⟨wr.heap.size, 0, none⟩) 1 1 [s] rfl (one_rdT wr s) rfl (by intro x hx; simp at hx; subst hx; omega) (by omega) (Nat.le_trans HB.out.size HNB.out.size) ?_; intro v' w' ys' hO' hT' hG'; have HB2 : Hid (Below w.heap.size w w') := ((HB.out.trans (HNB.out.mono HB.out.size)).grown hG' (Nat.le_trans HB.out.size HNB.out.size) HO2.out.1.1.lt); clear hG')
              obtain ⟨ao', rfl, _⟩ := hO'.out.shape
              have hrd : RdT w' ao' (out ++ [s]) := by
                have := hO'.out.rd (out.length + 1)
                rwa [hT'.out, HO2.out.2] at this
              refine (HKn.out w' ao' _ hrd).mono ?_
              rintro e w2 ⟨rfl, rfl⟩
              clear hrd HKn
              go_wp2_with fail
              go_roundw
              case rel => exact ⟨p + 1 + c, st, B, bh, out ++ [s], by go_num, rfl, rfl, by omega, by omega, by omega, by omega, HBH, HQ2, HC2, ⟨ys', by simpa using hO'.out, by rw [List.length_append]; exact hT'.out.trans (by rw [HO2.out.2])⟩, HB2⟩
              case measure => simp [intOf]; omega
            · have e : R = none := by rw [← HQ.out]; exact qgo_labBad hpz HG0.out HG1.out HG2.out (by rw [e1]; exact hk)
              subst e
              have hN255 : 255 < N := by
                have := mt hns.2 hk
                omega
              clear hns
              generalize qlab zs (p + 1) c = s at *
              obtain ⟨ys, hO, hT⟩ := HW.out
              have hnb : Below wr.heap.size wr (wr.alloc (.cells #[.string s] 9)) := new_below _ _
              have HO2 : Hid (OwnT w.heap.size (wr.alloc (.cells #[.string s] 9)) u9 out.length ys 1000 ∧ ys.take out.length = out) := ⟨hO.below hnb, hT⟩
              have HNB : Hid (Below wr.heap.size wr (wr.alloc (.cells #[.string s] 9))) := hnb
              clear hO hT hnb HQ HR HG0 HG1 HG2 HCC hcc hbd hk e1 hN
              go_wp2_with (at_builtin; refine wpList_append_T tyN _ rfl _ _ 33 9 Try.underlying33 rfl w.heap.size _ out.length ys 1000 rfl HO2.out.1 (some ⟨wr.heap.size, 0, none⟩) 1 1 [s] rfl (one_rdT wr s) rfl (by intro x hx; simp at hx; subst hx; omega) (by omega) (Nat.le_trans HB.out.size HNB.out.size) ?_; intro v' w' ys' hO' hT' hG'; have HB2 : Hid (Below w.heap.size w w') := ((HB.out.trans (HNB.out.mono HB.out.size)).grown hG' (Nat.le_trans HB.out.size HNB.out.size) HO2.out.1.1.lt); clear hG')
              obtain ⟨ao', rfl, _⟩ := hO'.out.shape
              have hrd : RdT w' ao' (out ++ [s]) := by
                have := hO'.out.rd (out.length + 1)
                rwa [hT'.out, HO2.out.2] at this
              refine (HKn.out w' ao' _ hrd).mono ?_
              rintro e w2 ⟨rfl, rfl⟩
              clear hrd HKn
              go_wp2_with fail
              go_ret3
              exact ⟨.slice none 0 0, [], rfl, OwnT.nil _ _ _, rfl, HB2.out⟩
          · have hfit' : (len : Int) < (p : Int) + 1 + (c : Int) := by omega
            have e : R = none := by rw [← HQ.out]; exact qgo_labLong hpz HG0.out HG1.out (by rw [HCC.out, HL.out]; simpa using hfit)
            subst e
            have hc192 : (c : Int) < 192 := by omega
            clear HQ HR
            go_wp2_with fail
            go_ret3
            exact ⟨.slice none 0 0, [], rfl, OwnT.nil _ _ _, rfl, HB.out⟩
        · have hc63 : 63 < (c : Int) := by omega
          have HG1 : Hid (¬ zs.getD p 0 ≤ 63) := (by show ¬ zs.getD p 0 ≤ 63; rw [hcc]; omega)
          cases back with
          | false =>
            have e : R = none := by rw [← HQ.out]; exact qgo_no hpz HG1.out (by simp)
            subst e
            clear HQ HR
            go_wp2_with fail
            all_goals (go_ret3; exact ⟨.slice none 0 0, [], rfl, OwnT.nil _ _ _, rfl, HB.out⟩)
          | true =>
            by_cases hok : 192 ≤ c ∧ p + 1 < len
            · obtain ⟨_, _, e', _, hcy⟩ := rd_at HR.out (p + 1) (by rw [HL.out]; omega)
              cases e'
              have hcy2 := cell_below HB.out hbo hcy
              clear hcy
              have hby := HR.out.bd (p + 1)
              have hp1 : (p : Int) + 1 < (len : Int) := by omega
              have hc192 : 192 ≤ (c : Int) := by omega
              have HG2 : Hid (true = true ∧ 192 ≤ zs.getD p 0 ∧ p + 1 < zs.length) := ⟨rfl, by rw [hcc]; omega, by rw [HL.out]; omega⟩
              have hqt : (qto zs p : Int) = 256 * ((c : Int) - 192) + zs.getD (p + 1) 0 := by unfold qto; rw [HCC.out]; omega
              by_cases hto : qto zs p < st
              · have HQ2 : Hid (qgo zs true (qto zs p) (qto zs p) (some (bh.getD (p + 2))) out = R) := (show _ = _ by rw [← HQ.out]; exact (qgo_ptr hpz HG2.out hto).symm)
                generalize qto zs p = t at *
                generalize zs.getD (p + 1) 0 = y at *
                have hto' : 256 * ((c : Int) - 192) + y < (st : Int) := by omega
                have HT : Hid ((t : Int) = 256 * ((c : Int) - 192) + y) := hqt
                clear HQ HR HG0 HG1 HG2 HCC hcc hbd hqt
                have hmeas : t * (len + 2) + (len + 1 - t) < st * (len + 2) + (len + 1 - p) := by
                  have h1 : (t + 1) * (len + 2) ≤ st * (len + 2) := Nat.mul_le_mul_right _ (by omega)
                  have h2 : (t + 1) * (len + 2) = t * (len + 2) + (len + 2) := by rw [Nat.add_mul, Nat.one_mul]
                  omega
                by_cases hB0 : B < 0
                · have HBH2 : Hid (((p + 2 : Nat) : Int) = nxI (some (bh.getD (p + 2)))) := by
                    cases hh : bh with
                    | none => exact rfl
                    | some q => have h1 := HBH.out; rw [hh] at h1; simp only [nxI] at h1; omega
                  go_wp2_with fail
                  go_roundw
                  case rel => exact ⟨t, t, ((p + 2 : Nat) : Int), some (bh.getD (p + 2)), out, by rw [HT.out], by rw [HT.out], by go_num, by omega, by omega, by omega, by omega, HBH2, HQ2, HC, HW, HB⟩
                  case measure => rw [← HT.out]; simp [intOf]; exact hmeas
                · have HBH2 : Hid (B = nxI (some (bh.getD (p + 2)))) := by
                    cases hh : bh with
                    | none => have h1 := HBH.out; rw [hh] at h1; simp only [nxI] at h1; omega
                    | some q => have h1 := HBH.out; rw [hh] at h1; exact h1
                  go_wp2_with fail
                  go_roundw
                  case rel => exact ⟨t, t, B, some (bh.getD (p + 2)), out, by rw [HT.out], by rw [HT.out], rfl, by omega, by omega, by omega, by omega, HBH2, HQ2, HC, HW, HB⟩
                  case measure => rw [← HT.out]; simp [intOf]; exact hmeas
              · have e : R = none := by rw [← HQ.out]; exact qgo_ptrBad hpz HG2.out hto
                subst e
                generalize qto zs p = t at *
                generalize zs.getD (p + 1) 0 = y at *
                have hto' : (st : Int) ≤ 256 * ((c : Int) - 192) + y := by omega
                clear HQ HR HG0 HG1 HG2 HCC hcc hbd hqt
                go_wp2_with fail
                go_ret3
                exact ⟨.slice none 0 0, [], rfl, OwnT.nil _ _ _, rfl, HB.out⟩
            · have e : R = none := by rw [← HQ.out]; exact qgo_no hpz HG1.out (by rw [HCC.out, HL.out]; intro h; exact hok ⟨by have := h.2.1; omega, h.2.2⟩)
              subst e
              have hok' : (c : Int) < 192 ∨ (len : Int) ≤ (p : Int) + 1 := by omega
              clear HQ HR HG0 HG1 HCC hcc hbd hok
              rcases hok' with hok' | hok'
              · go_wp2_with fail
                go_ret3
                exact ⟨.slice none 0 0, [], rfl, OwnT.nil _ _ _, rfl, HB.out⟩
              · by_cases h192 : (c : Int) < 192
                · go_wp2_with fail
                  go_ret3
                  exact ⟨.slice none 0 0, [], rfl, OwnT.nil _ _ _, rfl, HB.out⟩
                · go_wp2_with fail
                  go_ret3
                  exact ⟨.slice none 0 0, [], rfl, OwnT.nil _ _ _, rfl, HB.out⟩
    · have hge : (len : Int) ≤ (p : Int) := by omega
      have e : R = none := by rw [← HQ.out]; exact qgo_out (by rw [HL.out]; exact hpl)
      subst e
      clear HQ
      go_wp2_with fail
      go_ret3
      exact ⟨.slice none 0 0, [], rfl, OwnT.nil _ _ _, rfl, HB.out⟩
end Go.Proofs.Ytfnpiknobmecbaa
