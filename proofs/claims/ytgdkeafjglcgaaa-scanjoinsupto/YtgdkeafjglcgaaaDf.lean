/- The document's reading: a word. -/
import Derived.Test.YtgdkeafjglcgaaaDf0
namespace Go.Proofs.Ytgdkeafjglcgaaa
open Go.ChangeShapes Go.WideShapes Go.ChangeAt Go.RowKit
set_option linter.unusedVariables false
set_option linter.unusedSimpArgs false

set_option maxRecDepth 100000 in
set_option maxHeartbeats 16000000 in
theorem word80 {B X : Nat} {w0 w : World} {s : ByteArray} {q : Cf} {p0 : Nat} {wv ev : Value} {wS : World} {fl : Int} (L : Nat) (h : DS B X w0 w s q p0 wv ev wS fl) (hnd : Nd q p0) (hs : s.size ≤ 70000) (hp0 : p0 < s.size) (hc0 : endsW s[p0] = false) (h034 : s[p0] ≠ 34) :
    Calls Try.prog 80 #[.pointer (some ⟨X, 0, none⟩)] w fun r w' => r = .returned (.tuple #[]) ∧ Hid (StD B X w0 s L q p0 w') := by
  have HS := Lib.hid h
  have HND := Lib.hid hnd
  have c1 := h.bx.c1
  have hlt := h.bx.lt
  clear h hnd
  go_enter Try.func80, Try.ntmps80
  go_wp2_with fail
  go_loopw [7] (fun y wr => Hid ((∃ p fl', p0 ≤ p ∧ p ≤ s.size ∧ Dx wr X s p q.line (q.op : Int) q.bl q.el false wv ev 0 fl' ∧ Onl X w wr ∧ GW L s q p0 p) ∨ (∃ p fl', p0 ≤ p ∧ p < s.size ∧ (∀ h : p < s.size, s[p] = 92) ∧ Dx wr X s p q.line (q.op : Int) q.bl q.el false wv ev 230 fl' ∧ Onl X w wr ∧ Er (goF L q (rst s p0))))) (fun y wr => atM X s wr)
  case atStart => exact .inl ⟨p0, fl, Nat.le_refl _, Nat.le_of_lt hp0, HS.out.bx, Onl.refl _ _, .inl rfl⟩
  case round =>
    clear c1 hlt
    rcases hrel.out with ⟨p, fl', hpp, hps, hd, hon, hg⟩ | ⟨p, fl', hpp, hp, h92, hd, hon, her⟩
    · have c0 := hd.c0
      have c1 := hd.c1
      have c2 := hd.c2
      have c9 := hd.c9
      have f1 := hd.fz 1
      have hlt := hd.lt
      have HD := Lib.hid hd
      have HON := Lib.hid hon
      have HG := Lib.hid hg
      clear hd hon hg hrel
      have hi0 : (0 : Int) ≤ (p0 : Int) := by omega
      have hi1 : (p0 : Int) ≤ (p : Int) := by omega
      have hi2 : (p : Int) ≤ (s.size : Int) := by omega
      by_cases hp : p < s.size
      · have hp' : (p : Int) < (s.size : Int) := by omega
        have HZ : Hid (endsz ((s[p].toNat : Nat) : Int) = endsW s[p]) := endsz_bI s[p]
        have K85 := Lib.hid (fun W => rends85 ((s[p].toNat : Nat) : Int) W)
        rw [HZ.out] at K85
        cases he : endsW s[p] with
        | true =>
          rw [he] at K85
          have hp0p : p0 < p := by
            rcases Nat.lt_or_ge p0 p with h | h
            · exact h
            · obtain rfl : p = p0 := by omega
              rw [he] at hc0; cases hc0
          have K86 : Hid (∀ n, Calls Try.prog 86 #[.pointer (some ⟨X, 0, none⟩), .agg #[.string (s.extract p0 p), .bool false]] (wr.drewN n) fun r w' => r = .returned (.tuple #[]) ∧ Hid (PutP B X w0 s q p (s.extract p0 p, false) w')) := fun n => put86 (HS.out.only (HON.out.dn n) (HD.out.same (w' := wr.drewN n) rfl) rfl rfl) (s.extract p0 p, false) HND.out.ws
          have HST : Hid (∀ h : p < s.size, endsW s[p] = true) := fun _ => he
          clear he
          go_wp2_with fail
          refine wp_region_quiet_lit (by kernel_rfl) (by kernel_rfl) ?_
          repeat
            (with_reducible refine wpQuiet_step (fun K hK => ?_)
             go_simp
             first
               | (with_reducible refine hK _ ?_; clear hK K)
               | (apply Exists.intro
                  with_reducible refine ⟨fun _ => ?_, hK _ ?_⟩
                  (go_at_call 85; with_reducible exact Calls.quiet_of_same (K85.out _))
                  clear hK K))
          with_reducible refine wpQuiet_nil ?_
          intro _ hw'
          obtain ⟨nq, hw''⟩ := hw'
          subst hw''
          go_wp2_with fail
          refine wp_region_last (l := [_, _, _, _, _, _, _, _, _, _, _, _]) (o := _) rfl (by kernel_rfl) (by kernel_rfl) ?_
          repeat
            (with_reducible refine wpQuiet_step (fun K hK => ?_)
             go_simp
             first
               | (with_reducible refine hK _ ?_; clear hK K)
               | (apply Exists.intro
                  with_reducible refine ⟨fun _ => ?_, hK _ ?_⟩
                  fail
                  clear hK K))
          with_reducible refine wpQuiet_nil ?_
          intro _ hw'
          obtain ⟨nq2, hw''⟩ := hw'
          subst hw''
          unfold Oper.wp
          go_simp
          refine (K86.out _).mono ?_
          rintro e w9 ⟨rfl, H9⟩
          go_wp2_with fail
          go_end0
          refine ⟨rfl, ?_⟩
          rcases H9.out with ⟨h64, hdf⟩ | ⟨h64, wv', ev', wS', fl2, hds⟩
          · exact .inl ⟨hdf, HG.out.end_no hp0p HST.out h64⟩
          · exact .inr ⟨_, p, wv', ev', wS', fl2, hds, HND.out.add (by omega) h64 _, hp0p, hps, HG.out.end_ HND.out.st hp0p hps HST.out h64⟩
        | false =>
          rw [he] at K85
          by_cases h92 : s[p] = 92
          · have e92 : ((s[p].toNat : Nat) : Int) = 92 := by rw [h92]; rfl
            have e92b : (((s[p].toNat : Nat) : Int) == 92) = true := by simpa using e92
            simp only [e92] at K85
            by_cases hyes : ∃ h : p + 1 < s.size, s[p + 1] ≠ 10
            · obtain ⟨hq1, hq2⟩ := hyes
              have K84 : Hid (∀ n, Calls Try.prog 84 #[.pointer (some ⟨X, 0, none⟩)] (wr.drewN n) fun r w' => r = .returned (.bool true) ∧ Hid (Dx w' X s (p + 2) q.line (q.op : Int) q.bl q.el false wv ev 0 fl' ∧ Onl X (wr.drewN n) w')) := fun n => pair84_yes (HD.out.same (w' := wr.drewN n) rfl) (by omega) hq1 hq2
              have HG2 := Lib.hid (HG.out.pair HND.out.st hq1 h92 hq2)
              clear h92 he hq2
              go_wp2_with fail
              refine wp_region_quiet_lit (by kernel_rfl) (by kernel_rfl) ?_
              repeat
                (with_reducible refine wpQuiet_step (fun K hK => ?_)
                 go_simp
                 first
                   | (with_reducible refine hK _ ?_; clear hK K)
                   | (apply Exists.intro
                      with_reducible refine ⟨fun _ => ?_, hK _ ?_⟩
                      (go_at_call 85; with_reducible exact Calls.quiet_of_same (K85.out _))
                      clear hK K))
              with_reducible refine wpQuiet_nil ?_
              intro _ hw'
              obtain ⟨nq, hw''⟩ := hw'
              subst hw''
              go_wp2_with fail
              refine wp_region_quiet_lit (by kernel_rfl) (by kernel_rfl) ?_
              repeat
                (with_reducible refine wpQuiet_step (fun K hK => ?_)
                 go_simp
                 first
                   | (with_reducible refine hK _ ?_; clear hK K)
                   | (apply Exists.intro
                      with_reducible refine ⟨fun _ => ?_, hK _ ?_⟩
                      fail
                      clear hK K))
              with_reducible refine wpQuiet_nil ?_
              intro _ hw'
              obtain ⟨nq2, hw''⟩ := hw'
              subst hw''
              go_wp2_with fail
              refine (K84.out _).mono ?_
              rintro e w9 ⟨rfl, H9⟩
              go_wp2_with fail
              go_roundw
              case rel => exact .inl ⟨p + 2, fl', by omega, by omega, H9.out.1, (HON.out.dn _).trans H9.out.2, HG2.out⟩
              case measure => simp only [H9.out.1.atM, HD.out.atM]; simp; omega
            · have hno : ∀ h : p + 1 < s.size, s[p + 1] = 10 := fun h => Classical.byContradiction fun hh => hyes ⟨h, hh⟩
              have K84 : Hid (∀ n, Calls Try.prog 84 #[.pointer (some ⟨X, 0, none⟩)] (wr.drewN n) fun r w' => r = .returned (.bool false) ∧ Hid (∃ fl2, Dx w' X s p q.line (q.op : Int) q.bl q.el false wv ev 230 fl2 ∧ Onl X (wr.drewN n) w')) := fun n => pair84_no (HD.out.same (w' := wr.drewN n) rfl) (by omega) hp hno
              have HER := Lib.hid (HG.out.pair_no HND.out.st hp h92 hno)
              have H92 : Hid (∀ h : p < s.size, s[p] = 92) := fun _ => h92
              clear h92 he hno hyes
              go_wp2_with fail
              refine wp_region_quiet_lit (by kernel_rfl) (by kernel_rfl) ?_
              repeat
                (with_reducible refine wpQuiet_step (fun K hK => ?_)
                 go_simp
                 first
                   | (with_reducible refine hK _ ?_; clear hK K)
                   | (apply Exists.intro
                      with_reducible refine ⟨fun _ => ?_, hK _ ?_⟩
                      (go_at_call 85; with_reducible exact Calls.quiet_of_same (K85.out _))
                      clear hK K))
              with_reducible refine wpQuiet_nil ?_
              intro _ hw'
              obtain ⟨nq, hw''⟩ := hw'
              subst hw''
              go_wp2_with fail
              refine wp_region_quiet_lit (by kernel_rfl) (by kernel_rfl) ?_
              repeat
                (with_reducible refine wpQuiet_step (fun K hK => ?_)
                 go_simp
                 first
                   | (with_reducible refine hK _ ?_; clear hK K)
                   | (apply Exists.intro
                      with_reducible refine ⟨fun _ => ?_, hK _ ?_⟩
                      fail
                      clear hK K))
              with_reducible refine wpQuiet_nil ?_
              intro _ hw'
              obtain ⟨nq2, hw''⟩ := hw'
              subst hw''
              go_wp2_with fail
              refine (K84.out _).mono ?_
              rintro e w9 ⟨rfl, H9⟩
              go_wp2_with fail
              obtain ⟨fl2, hd2, ho2⟩ := H9.out
              go_roundw
              case rel => exact .inr ⟨p, fl2, by omega, hp, H92.out, hd2, (HON.out.dn _).trans ho2, HER.out⟩
              case measure => simp only [hd2.atM, HD.out.atM]; simp
          · have n92 := u8_ne h92 92 rfl
            have n92b := u8_nb h92 92 rfl
            by_cases h34 : s[p] = 34
            · have e34 : ((s[p].toNat : Nat) : Int) = 34 := by rw [h34]; rfl
              have e34b : (((s[p].toNat : Nat) : Int) == 34) = true := by simpa using e34
              simp only [e34] at K85
              have hp0p : p0 < p := by
                rcases Nat.lt_or_ge p0 p with h | h
                · exact h
                · obtain rfl : p = p0 := by omega
                  exact absurd h34 h034
              have HER := Lib.hid (HG.out.q34 hp0p hp h34)
              have K71 : Hid (∀ n, Calls Try.prog 71 #[.pointer (some ⟨X, 0, none⟩), .int .i64 230, .int .i64 (q.line : Int)] (wr.drewN n) fun r w' => r = .returned (.tuple #[]) ∧ Hid (Dx w' X s p q.line (q.op : Int) q.bl q.el false wv ev 230 (q.line : Int) ∧ Onl X (wr.drewN n) w')) := fun n => fault71_ok (HD.out.same (w' := wr.drewN n) rfl) 230 (q.line : Int)
              clear h34 h92 he
              go_wp2_with fail
              refine wp_region_quiet_lit (by kernel_rfl) (by kernel_rfl) ?_
              repeat
                (with_reducible refine wpQuiet_step (fun K hK => ?_)
                 go_simp
                 first
                   | (with_reducible refine hK _ ?_; clear hK K)
                   | (apply Exists.intro
                      with_reducible refine ⟨fun _ => ?_, hK _ ?_⟩
                      (go_at_call 85; with_reducible exact Calls.quiet_of_same (K85.out _))
                      clear hK K))
              with_reducible refine wpQuiet_nil ?_
              intro _ hw'
              obtain ⟨nq, hw''⟩ := hw'
              subst hw''
              go_wp2_with fail
              refine wp_region_quiet_lit (by kernel_rfl) (by kernel_rfl) ?_
              repeat
                (with_reducible refine wpQuiet_step (fun K hK => ?_)
                 go_simp
                 first
                   | (with_reducible refine hK _ ?_; clear hK K)
                   | (apply Exists.intro
                      with_reducible refine ⟨fun _ => ?_, hK _ ?_⟩
                      fail
                      clear hK K))
              with_reducible refine wpQuiet_nil ?_
              intro _ hw'
              obtain ⟨nq2, hw''⟩ := hw'
              subst hw''
              go_wp2_with fail
              refine wp_region_quiet_lit (by kernel_rfl) (by kernel_rfl) ?_
              repeat
                (with_reducible refine wpQuiet_step (fun K hK => ?_)
                 go_simp
                 first
                   | (with_reducible refine hK _ ?_; clear hK K)
                   | (apply Exists.intro
                      with_reducible refine ⟨fun _ => ?_, hK _ ?_⟩
                      fail
                      clear hK K))
              with_reducible refine wpQuiet_nil ?_
              intro _ hw'
              obtain ⟨nq3, hw''⟩ := hw'
              subst hw''
              go_wp2_with fail
              refine (K71.out _).mono ?_
              rintro e w9 ⟨rfl, H9⟩
              go_wp2_with fail
              exact bodyPost_ret (v := .tuple #[]) (by simp [results, Try.results80, go_sem]) rfl ⟨rfl, .inl ⟨HS.out.fail ((HON.out.dn _).trans H9.out.2) H9.out.1 (by decide), HER.out⟩⟩
            · have n34 := u8_ne h34 34 rfl
              have n34b := u8_nb h34 34 rfl
              have HG2 := Lib.hid (HG.out.next HND.out.st hp he h34 h92)
              have HF : Hid (∀ n, Dx ((wr.drewN n).setCell ⟨X, 1, none⟩ (.int .i64 ((p : Int) + 1))) X s (p + 1) q.line (q.op : Int) q.bl q.el false wv ev 0 fl' ∧ Onl X w ((wr.drewN n).setCell ⟨X, 1, none⟩ (.int .i64 ((p : Int) + 1)))) := fun n => ⟨(by have := (HD.out.same (w' := wr.drewN n) rfl).p1 (p + 1); simpa using this), (HON.out.dn n).set 1 _⟩
              clear h34 h92 he
              go_wp2_with fail
              refine wp_region_quiet_lit (by kernel_rfl) (by kernel_rfl) ?_
              repeat
                (with_reducible refine wpQuiet_step (fun K hK => ?_)
                 go_simp
                 first
                   | (with_reducible refine hK _ ?_; clear hK K)
                   | (apply Exists.intro
                      with_reducible refine ⟨fun _ => ?_, hK _ ?_⟩
                      (go_at_call 85; with_reducible exact Calls.quiet_of_same (K85.out _))
                      clear hK K))
              with_reducible refine wpQuiet_nil ?_
              intro _ hw'
              obtain ⟨nq, hw''⟩ := hw'
              subst hw''
              go_wp2_with fail
              refine wp_region_quiet_lit (by kernel_rfl) (by kernel_rfl) ?_
              repeat
                (with_reducible refine wpQuiet_step (fun K hK => ?_)
                 go_simp
                 first
                   | (with_reducible refine hK _ ?_; clear hK K)
                   | (apply Exists.intro
                      with_reducible refine ⟨fun _ => ?_, hK _ ?_⟩
                      fail
                      clear hK K))
              with_reducible refine wpQuiet_nil ?_
              intro _ hw'
              obtain ⟨nq2, hw''⟩ := hw'
              subst hw''
              go_wp2_with fail
              refine wp_region_quiet_lit (by kernel_rfl) (by kernel_rfl) ?_
              repeat
                (with_reducible refine wpQuiet_step (fun K hK => ?_)
                 go_simp
                 first
                   | (with_reducible refine hK _ ?_; clear hK K)
                   | (apply Exists.intro
                      with_reducible refine ⟨fun _ => ?_, hK _ ?_⟩
                      fail
                      clear hK K))
              with_reducible refine wpQuiet_nil ?_
              intro _ hw'
              obtain ⟨nq3, hw''⟩ := hw'
              subst hw''
              go_wp2_with fail
              go_roundw
              case rel => exact .inl ⟨p + 1, fl', by omega, by omega, (HF.out _).1, (HF.out _).2, HG2.out⟩
              case measure => simp only [(HF.out _).1.atM, HD.out.atM]; simp; omega
      · obtain rfl : p = s.size := by omega
        have hp' : ¬ (s.size : Int) < (s.size : Int) := by omega
        have K86 : Hid (∀ n, Calls Try.prog 86 #[.pointer (some ⟨X, 0, none⟩), .agg #[.string (s.extract p0 s.size), .bool false]] (wr.drewN n) fun r w' => r = .returned (.tuple #[]) ∧ Hid (PutP B X w0 s q s.size (s.extract p0 s.size, false) w')) := fun n => put86 (HS.out.only (HON.out.dn n) (HD.out.same (w' := wr.drewN n) rfl) rfl rfl) (s.extract p0 s.size, false) HND.out.ws
        go_wp2_with fail
        refine wp_region_quiet_lit (by kernel_rfl) (by kernel_rfl) ?_
        repeat
          (with_reducible refine wpQuiet_step (fun K hK => ?_)
           go_simp
           first
             | (with_reducible refine hK _ ?_; clear hK K)
             | (apply Exists.intro
                with_reducible refine ⟨fun _ => ?_, hK _ ?_⟩
                fail
                clear hK K))
        with_reducible refine wpQuiet_nil ?_
        intro _ hw'
        obtain ⟨nq, hw''⟩ := hw'
        subst hw''
        go_wp2_with fail
        refine wp_region_last (l := [_, _, _, _, _, _, _, _, _, _, _, _]) (o := _) rfl (by kernel_rfl) (by kernel_rfl) ?_
        repeat
          (with_reducible refine wpQuiet_step (fun K hK => ?_)
           go_simp
           first
             | (with_reducible refine hK _ ?_; clear hK K)
             | (apply Exists.intro
                with_reducible refine ⟨fun _ => ?_, hK _ ?_⟩
                fail
                clear hK K))
        with_reducible refine wpQuiet_nil ?_
        intro _ hw'
        obtain ⟨nq2, hw''⟩ := hw'
        subst hw''
        unfold Oper.wp
        go_simp
        refine (K86.out _).mono ?_
        rintro e w9 ⟨rfl, H9⟩
        go_wp2_with fail
        go_end0
        refine ⟨rfl, ?_⟩
        rcases H9.out with ⟨h64, hdf⟩ | ⟨h64, wv', ev', wS', fl2, hds⟩
        · exact .inl ⟨hdf, HG.out.end_no hp0 (fun h => absurd h hp) h64⟩
        · exact .inr ⟨_, s.size, wv', ev', wS', fl2, hds, HND.out.add (by omega) h64 _, hp0, Nat.le_refl _, HG.out.end_ HND.out.st hp0 (Nat.le_refl _) (fun h => absurd h hp) h64⟩
    · have c0 := hd.c0
      have c1 := hd.c1
      have c9 := hd.c9
      have hlt := hd.lt
      have hi0 : (0 : Int) ≤ (p0 : Int) := by omega
      have hi1 : (p0 : Int) ≤ (p : Int) := by omega
      have hi2 : (p : Int) ≤ (s.size : Int) := by omega
      have hp' : (p : Int) < (s.size : Int) := by omega
      have K85 : Hid (∀ W, Calls Try.prog 85 #[.int .u8 ((s[p].toNat : Nat) : Int)] W fun e w' => e = .returned (.bool false) ∧ w' = W) := fun W => by
        have he : endsW s[p] = false := by rw [h92 hp]; rfl
        have := rends85 ((s[p].toNat : Nat) : Int) W
        rw [show endsz ((s[p].toNat : Nat) : Int) = endsW s[p] from endsz_bI s[p], he] at this
        exact this
      have HDF : Hid (∀ n, DF B X w0 (wr.drewN n) s) := fun n => HS.out.fail (hon.dn n) (hd.same (w' := wr.drewN n) rfl) (by decide)
      have K86 : Hid (∀ n, Calls Try.prog 86 #[.pointer (some ⟨X, 0, none⟩), .agg #[.string (s.extract p0 p), .bool false]] (wr.drewN n) fun r w' => r = .returned (.tuple #[]) ∧ Hid (DF B X w0 w' s)) := fun n => put86_no (HDF.out n) (s.extract p0 p, false)
      have HER := Lib.hid her
      clear hd hon her hrel h92
      go_wp2_with fail
      refine wp_region_quiet_lit (by kernel_rfl) (by kernel_rfl) ?_
      repeat
        (with_reducible refine wpQuiet_step (fun K hK => ?_)
         go_simp
         first
           | (with_reducible refine hK _ ?_; clear hK K)
           | (apply Exists.intro
              with_reducible refine ⟨fun _ => ?_, hK _ ?_⟩
              (go_at_call 85; with_reducible exact Calls.quiet_of_same (K85.out _))
              clear hK K))
      with_reducible refine wpQuiet_nil ?_
      intro _ hw'
      obtain ⟨nq, hw''⟩ := hw'
      subst hw''
      go_wp2_with fail
      refine wp_region_last (l := [_, _, _, _, _, _, _, _, _, _, _, _]) (o := _) rfl (by kernel_rfl) (by kernel_rfl) ?_
      repeat
        (with_reducible refine wpQuiet_step (fun K hK => ?_)
         go_simp
         first
           | (with_reducible refine hK _ ?_; clear hK K)
           | (apply Exists.intro
              with_reducible refine ⟨fun _ => ?_, hK _ ?_⟩
              fail
              clear hK K))
      with_reducible refine wpQuiet_nil ?_
      intro _ hw'
      obtain ⟨nq2, hw''⟩ := hw'
      subst hw''
      unfold Oper.wp
      go_simp
      refine (K86.out _).mono ?_
      rintro e w9 ⟨rfl, H9⟩
      go_wp2_with fail
      go_end0
      exact ⟨rfl, .inl ⟨H9.out, HER.out⟩⟩
end Go.Proofs.Ytgdkeafjglcgaaa
