/- The document's reading: a word in quotes. -/
import Derived.Test.YtgdkeafjglcgaaaDf1
namespace Go.Proofs.Ytgdkeafjglcgaaa
open Go.ChangeShapes Go.WideShapes Go.ChangeAt Go.RowKit
set_option linter.unusedVariables false
set_option linter.unusedSimpArgs false

set_option maxRecDepth 100000 in
set_option maxHeartbeats 8000000 in
theorem quoted79 {B X : Nat} {w0 w : World} {s : ByteArray} {q : Cf} {p0 : Nat} {wv ev : Value} {wS : World} {fl : Int} (L : Nat) (h : DS B X w0 w s q p0 wv ev wS fl) (hnd : Nd q p0) (hs : s.size ≤ 70000) (hp0 : p0 < s.size) (h034 : s[p0] = 34) :
    Calls Try.prog 79 #[.pointer (some ⟨X, 0, none⟩)] w fun r w' => r = .returned (.tuple #[]) ∧ Hid (StD B X w0 s L q p0 w') := by
  have HS := Lib.hid h
  have HND := Lib.hid hnd
  have c1 := h.bx.c1
  have f1 := h.bx.fz 1
  have hlt := h.bx.lt
  have HD1 : Hid (Dx (w.setCell ⟨X, 1, none⟩ (.int .i64 ((p0 : Int) + 1))) X s (p0 + 1) q.line (q.op : Int) q.bl q.el false wv ev 0 fl ∧ Onl X w (w.setCell ⟨X, 1, none⟩ (.int .i64 ((p0 : Int) + 1)))) := ⟨(by have := h.bx.p1 (p0 + 1); simpa using this), (Onl.refl X w).set 1 _⟩
  have HG0 : Hid (GQ L s q (p0 + 1) (p0 + 1) (goF L q (rst s p0))) := ⟨Nat.le_refl _, by rw [rst_cons hp0, h034, q_first L q _ hnd.st, seg_self]⟩
  clear h hnd h034
  go_enter Try.func79, Try.ntmps79
  go_wp2_with fail
  generalize w.setCell ⟨X, 1, none⟩ (.int .i64 ((p0 : Int) + 1)) = w1 at *
  go_loopw [16] (fun y wr => Hid ((∃ p fl', p0 + 1 ≤ p ∧ p ≤ s.size ∧ Dx wr X s p q.line (q.op : Int) q.bl q.el false wv ev 0 fl' ∧ Onl X w wr ∧ GQ L s q (p0 + 1) p (goF L q (rst s p0))) ∨ (∃ p fl', Dx wr X s p q.line (q.op : Int) q.bl q.el false wv ev 230 fl' ∧ Onl X w wr ∧ Er (goF L q (rst s p0))))) (fun y wr => mE X s wr)
  case atStart => exact .inl ⟨p0 + 1, fl, Nat.le_refl _, hp0, HD1.out.1, HD1.out.2, HG0.out⟩
  case round =>
    clear c1 f1 hlt HD1 HG0
    rcases hrel.out with ⟨p, fl', hpp, hps, hd, hon, hg⟩ | ⟨p, fl', hd, hon, her⟩
    · have c0 := hd.c0
      have c1 := hd.c1
      have c2 := hd.c2
      have c9 := hd.c9
      have f1 := hd.fz 1
      have hlt := hd.lt
      have HD := Lib.hid hd
      have HON := Lib.hid hon
      have HG := Lib.hid hg
      clear hd hon hg hrel
      have hi0 : (0 : Int) ≤ (p0 : Int) + 1 := by omega
      have hi1 : (p0 : Int) + 1 ≤ (p : Int) := by omega
      have hi2 : (p : Int) ≤ (s.size : Int) := by omega
      by_cases hp : p < s.size
      · have hp' : ¬ (s.size : Int) ≤ (p : Int) := by omega
        have hp2 : (p : Int) < (s.size : Int) := by omega
        by_cases h10 : s[p] = 10
        · have e10 : ((s[p].toNat : Nat) : Int) = 10 := by rw [h10]; rfl
          have e10b : (((s[p].toNat : Nat) : Int) == 10) = true := by simpa using e10
          have HER := Lib.hid (HG.out.q10 hp h10)
          have K71 : Hid (∀ n, Calls Try.prog 71 #[.pointer (some ⟨X, 0, none⟩), .int .i64 230, .int .i64 (q.line : Int)] (wr.drewN n) fun r w' => r = .returned (.tuple #[]) ∧ Hid (Dx w' X s p q.line (q.op : Int) q.bl q.el false wv ev 230 (q.line : Int) ∧ Onl X (wr.drewN n) w')) := fun n => fault71_ok (HD.out.same (w' := wr.drewN n) rfl) 230 (q.line : Int)
          clear h10
          go_wp2_with fail
          refine wp_region_quiet_lit (by kernel_rfl) (by kernel_rfl) ?_
          repeat
            (with_reducible refine wpQuiet_step (fun K hK => ?_)
             go_simp
             first
               | (with_reducible refine hK _ ?_; clear hK K)
               | (apply Exists.intro
                  with_reducible refine ⟨fun _ => ?_, hK _ ?_⟩
                  fail
                  clear hK K))
          with_reducible refine wpQuiet_nil ?_
          intro _ hw'
          obtain ⟨nq, hw''⟩ := hw'
          subst hw''
          go_wp2_with fail
          refine wp_region_quiet_lit (by kernel_rfl) (by kernel_rfl) ?_
          repeat
            (with_reducible refine wpQuiet_step (fun K hK => ?_)
             go_simp
             first
               | (with_reducible refine hK _ ?_; clear hK K)
               | (apply Exists.intro
                  with_reducible refine ⟨fun _ => ?_, hK _ ?_⟩
                  fail
                  clear hK K))
          with_reducible refine wpQuiet_nil ?_
          intro _ hw'
          obtain ⟨nq2, hw''⟩ := hw'
          subst hw''
          go_wp2_with fail
          refine (K71.out _).mono ?_
          rintro e w9 ⟨rfl, H9⟩
          go_wp2_with fail
          exact bodyPost_ret (v := .tuple #[]) (by simp [results, Try.results79, go_sem]) rfl ⟨rfl, .inl ⟨HS.out.fail ((HON.out.dn _).trans H9.out.2) H9.out.1 (by decide), HER.out⟩⟩
        · have n10 := u8_ne h10 10 rfl
          have n10b := u8_nb h10 10 rfl
          by_cases h34 : s[p] = 34
          · have H34 := Lib.hid h34
            have e34 : ((s[p].toNat : Nat) : Int) = 34 := by rw [h34]; rfl
            have e34b : (((s[p].toNat : Nat) : Int) == 34) = true := by simpa using e34
            have HDX : Hid (∀ n m, Dx (((wr.drewN n).setCell ⟨X, 1, none⟩ (.int .i64 ((p : Int) + 1))).drewN m) X s (p + 1) q.line (q.op : Int) q.bl q.el false wv ev 0 fl' ∧ Onl X w (((wr.drewN n).setCell ⟨X, 1, none⟩ (.int .i64 ((p : Int) + 1))).drewN m)) := fun n m => ⟨(by have := ((HD.out.same (w' := wr.drewN n) rfl).p1 (p + 1)).same (w' := ((wr.drewN n).setCell ⟨X, 1, none⟩ (.int .i64 ((p + 1 : Nat) : Int))).drewN m) rfl; simpa using this), ((HON.out.dn n).set 1 _).dn m⟩
            have K86 : Hid (∀ n m, Calls Try.prog 86 #[.pointer (some ⟨X, 0, none⟩), .agg #[.string (s.extract (p0 + 1) p), .bool true]] (((wr.drewN n).setCell ⟨X, 1, none⟩ (.int .i64 ((p : Int) + 1))).drewN m) fun r w' => r = .returned (.tuple #[]) ∧ Hid (PutP B X w0 s q (p + 1) (s.extract (p0 + 1) p, true) w')) := fun n m => put86 (HS.out.only (HDX.out n m).2 (HDX.out n m).1 rfl rfl) (s.extract (p0 + 1) p, true) HND.out.ws
            by_cases hq : p + 1 < s.size
            · have hq' : (p : Int) + 1 < (s.size : Int) := by omega
              have hq3 : (0 : Int) ≤ (p : Int) + 1 := by omega
              have hq4 : ((p : Int) + 1).toNat = p + 1 := by omega
              have HZ : Hid (endsz ((s[p + 1].toNat : Nat) : Int) = endsW s[p + 1]) := endsz_bI s[p + 1]
              have K85 := Lib.hid (fun W => rends85 ((s[p + 1].toNat : Nat) : Int) W)
              rw [HZ.out] at K85
              cases he : endsW s[p + 1] with
              | true =>
                rw [he] at K85
                have HST : Hid (∀ h : p + 1 < s.size, endsW s[p + 1] = true) := fun _ => he
                clear he h34
                go_wp2_with fail
                refine wp_region_quiet_lit (by kernel_rfl) (by kernel_rfl) ?_
                repeat
                  (with_reducible refine wpQuiet_step (fun K hK => ?_)
                   go_simp
                   first
                     | (with_reducible refine hK _ ?_; clear hK K)
                     | (apply Exists.intro
                        with_reducible refine ⟨fun _ => ?_, hK _ ?_⟩
                        fail
                        clear hK K))
                with_reducible refine wpQuiet_nil ?_
                intro _ hw'
                obtain ⟨nq, hw''⟩ := hw'
                subst hw''
                go_wp2_with fail
                refine wp_region_quiet_lit (by kernel_rfl) (by kernel_rfl) ?_
                repeat
                  (with_reducible refine wpQuiet_step (fun K hK => ?_)
                   go_simp
                   first
                     | (with_reducible refine hK _ ?_; clear hK K)
                     | (apply Exists.intro
                        with_reducible refine ⟨fun _ => ?_, hK _ ?_⟩
                        fail
                        clear hK K))
                with_reducible refine wpQuiet_nil ?_
                intro _ hw'
                obtain ⟨nq2, hw''⟩ := hw'
                subst hw''
                go_wp2_with fail
                refine wp_region_quiet_lit (by kernel_rfl) (by kernel_rfl) ?_
                repeat
                  (with_reducible refine wpQuiet_step (fun K hK => ?_)
                   go_simp
                   first
                     | (with_reducible refine hK _ ?_; clear hK K)
                     | (apply Exists.intro
                        with_reducible refine ⟨fun _ => ?_, hK _ ?_⟩
                        fail
                        clear hK K))
                with_reducible refine wpQuiet_nil ?_
                intro _ hw'
                obtain ⟨nq3, hw''⟩ := hw'
                subst hw''
                go_wp2_with fail
                refine wp_region_quiet_lit (by kernel_rfl) (by kernel_rfl) ?_
                repeat
                  (with_reducible refine wpQuiet_step (fun K hK => ?_)
                   go_simp
                   first
                     | (with_reducible refine hK _ ?_; clear hK K)
                     | (apply Exists.intro
                        with_reducible refine ⟨fun _ => ?_, hK _ ?_⟩
                        (go_at_call 85; with_reducible exact Calls.quiet_of_same (K85.out _))
                        clear hK K))
                with_reducible refine wpQuiet_nil ?_
                intro _ hw'
                obtain ⟨nq4, hw''⟩ := hw'
                subst hw''
                go_wp2_with fail
                refine (K86.out _ _).mono ?_
                rintro e w9 ⟨rfl, H9⟩
                go_wp2_with fail
                go_end0
                refine ⟨rfl, ?_⟩
                rcases H9.out with ⟨h64, hdf⟩ | ⟨h64, wv', ev', wS', fl2, hds⟩
                · exact .inl ⟨hdf, HG.out.shut_64 hp H34.out h64⟩
                · exact .inr ⟨_, p + 1, wv', ev', wS', fl2, hds, HND.out.add (by omega) h64 _, by omega, by omega, HG.out.shut HND.out.st hp H34.out HST.out h64⟩
              | false =>
                rw [he] at K85
                have HER := Lib.hid (HG.out.shut_no hp h34 hq he)
                have K71 : Hid (∀ n m, Calls Try.prog 71 #[.pointer (some ⟨X, 0, none⟩), .int .i64 230, .int .i64 (q.line : Int)] (((wr.drewN n).setCell ⟨X, 1, none⟩ (.int .i64 ((p : Int) + 1))).drewN m) fun r w' => r = .returned (.tuple #[]) ∧ Hid (Dx w' X s (p + 1) q.line (q.op : Int) q.bl q.el false wv ev 230 (q.line : Int) ∧ Onl X (((wr.drewN n).setCell ⟨X, 1, none⟩ (.int .i64 ((p : Int) + 1))).drewN m) w')) := fun n m => fault71_ok (HDX.out n m).1 230 (q.line : Int)
                clear he h34
                go_wp2_with fail
                refine wp_region_quiet_lit (by kernel_rfl) (by kernel_rfl) ?_
                repeat
                  (with_reducible refine wpQuiet_step (fun K hK => ?_)
                   go_simp
                   first
                     | (with_reducible refine hK _ ?_; clear hK K)
                     | (apply Exists.intro
                        with_reducible refine ⟨fun _ => ?_, hK _ ?_⟩
                        fail
                        clear hK K))
                with_reducible refine wpQuiet_nil ?_
                intro _ hw'
                obtain ⟨nq, hw''⟩ := hw'
                subst hw''
                go_wp2_with fail
                refine wp_region_quiet_lit (by kernel_rfl) (by kernel_rfl) ?_
                repeat
                  (with_reducible refine wpQuiet_step (fun K hK => ?_)
                   go_simp
                   first
                     | (with_reducible refine hK _ ?_; clear hK K)
                     | (apply Exists.intro
                        with_reducible refine ⟨fun _ => ?_, hK _ ?_⟩
                        fail
                        clear hK K))
                with_reducible refine wpQuiet_nil ?_
                intro _ hw'
                obtain ⟨nq2, hw''⟩ := hw'
                subst hw''
                go_wp2_with fail
                refine wp_region_quiet_lit (by kernel_rfl) (by kernel_rfl) ?_
                repeat
                  (with_reducible refine wpQuiet_step (fun K hK => ?_)
                   go_simp
                   first
                     | (with_reducible refine hK _ ?_; clear hK K)
                     | (apply Exists.intro
                        with_reducible refine ⟨fun _ => ?_, hK _ ?_⟩
                        fail
                        clear hK K))
                with_reducible refine wpQuiet_nil ?_
                intro _ hw'
                obtain ⟨nq3, hw''⟩ := hw'
                subst hw''
                go_wp2_with fail
                refine wp_region_quiet_lit (by kernel_rfl) (by kernel_rfl) ?_
                repeat
                  (with_reducible refine wpQuiet_step (fun K hK => ?_)
                   go_simp
                   first
                     | (with_reducible refine hK _ ?_; clear hK K)
                     | (apply Exists.intro
                        with_reducible refine ⟨fun _ => ?_, hK _ ?_⟩
                        (go_at_call 85; with_reducible exact Calls.quiet_of_same (K85.out _))
                        clear hK K))
                with_reducible refine wpQuiet_nil ?_
                intro _ hw'
                obtain ⟨nq4, hw''⟩ := hw'
                subst hw''
                go_wp2_with fail
                refine (K71.out _ _).mono ?_
                rintro e w9 ⟨rfl, H9⟩
                go_wp2_with fail
                exact bodyPost_ret (v := .tuple #[]) (by simp [results, Try.results79, go_sem]) rfl ⟨rfl, .inl ⟨HS.out.fail ((HDX.out _ _).2.trans H9.out.2) H9.out.1 (by decide), HER.out⟩⟩
            · have hq' : ¬ (p : Int) + 1 < (s.size : Int) := by omega
              have hql : (s.size : Int) ≤ (p : Int) + 1 := by omega
              have hqd : decide ((p : Int) + 1 < (s.size : Int)) = false := decide_eq_false hq'
              have HST : Hid (∀ h : p + 1 < s.size, endsW s[p + 1] = true) := fun h => absurd h hq
              clear h34
              go_wp2_with fail
              refine wp_region_quiet_lit (by kernel_rfl) (by kernel_rfl) ?_
              repeat
                (with_reducible refine wpQuiet_step (fun K hK => ?_)
                 go_simp
                 first
                   | (with_reducible refine hK _ ?_; clear hK K)
                   | (apply Exists.intro
                      with_reducible refine ⟨fun _ => ?_, hK _ ?_⟩
                      fail
                      clear hK K))
              with_reducible refine wpQuiet_nil ?_
              intro _ hw'
              obtain ⟨nq, hw''⟩ := hw'
              subst hw''
              go_wp2_with fail
              refine wp_region_quiet_lit (by kernel_rfl) (by kernel_rfl) ?_
              repeat
                (with_reducible refine wpQuiet_step (fun K hK => ?_)
                 go_simp
                 first
                   | (with_reducible refine hK _ ?_; clear hK K)
                   | (apply Exists.intro
                      with_reducible refine ⟨fun _ => ?_, hK _ ?_⟩
                      fail
                      clear hK K))
              with_reducible refine wpQuiet_nil ?_
              intro _ hw'
              obtain ⟨nq2, hw''⟩ := hw'
              subst hw''
              go_wp2_with fail
              refine wp_region_quiet_lit (by kernel_rfl) (by kernel_rfl) ?_
              repeat
                (with_reducible refine wpQuiet_step (fun K hK => ?_)
                 go_simp
                 first
                   | (with_reducible refine hK _ ?_; clear hK K)
                   | (apply Exists.intro
                      with_reducible refine ⟨fun _ => ?_, hK _ ?_⟩
                      fail
                      clear hK K))
              with_reducible refine wpQuiet_nil ?_
              intro _ hw'
              obtain ⟨nq3, hw''⟩ := hw'
              subst hw''
              go_wp2_with fail
              refine wp_region_quiet_lit (by kernel_rfl) (by kernel_rfl) ?_
              repeat
                (with_reducible refine wpQuiet_step (fun K hK => ?_)
                 go_simp
                 first
                   | (with_reducible refine hK _ ?_; clear hK K)
                   | (apply Exists.intro
                      with_reducible refine ⟨fun _ => ?_, hK _ ?_⟩
                      fail
                      clear hK K))
              with_reducible refine wpQuiet_nil ?_
              intro _ hw'
              obtain ⟨nq4, hw''⟩ := hw'
              subst hw''
              go_wp2_with fail
              refine (K86.out _ _).mono ?_
              rintro e w9 ⟨rfl, H9⟩
              go_wp2_with fail
              go_end0
              refine ⟨rfl, ?_⟩
              rcases H9.out with ⟨h64, hdf⟩ | ⟨h64, wv', ev', wS', fl2, hds⟩
              · exact .inl ⟨hdf, HG.out.shut_64 hp H34.out h64⟩
              · exact .inr ⟨_, p + 1, wv', ev', wS', fl2, hds, HND.out.add (by omega) h64 _, by omega, by omega, HG.out.shut HND.out.st hp H34.out HST.out h64⟩
          · have n34 := u8_ne h34 34 rfl
            have n34b := u8_nb h34 34 rfl
            by_cases h92 : s[p] = 92
            · have e92 : ((s[p].toNat : Nat) : Int) = 92 := by rw [h92]; rfl
              have e92b : (((s[p].toNat : Nat) : Int) == 92) = true := by simpa using e92
              by_cases hyes : ∃ h : p + 1 < s.size, s[p + 1] ≠ 10
              · obtain ⟨hq1, hq2⟩ := hyes
                have K84 : Hid (∀ n, Calls Try.prog 84 #[.pointer (some ⟨X, 0, none⟩)] (wr.drewN n) fun r w' => r = .returned (.bool true) ∧ Hid (Dx w' X s (p + 2) q.line (q.op : Int) q.bl q.el false wv ev 0 fl' ∧ Onl X (wr.drewN n) w')) := fun n => pair84_yes (HD.out.same (w' := wr.drewN n) rfl) (by omega) hq1 hq2
                have HG2 := Lib.hid (HG.out.pair hq1 h92 hq2)
                clear h92 hq2 h34 h10
                go_wp2_with fail
                refine wp_region_quiet_lit (by kernel_rfl) (by kernel_rfl) ?_
                repeat
                  (with_reducible refine wpQuiet_step (fun K hK => ?_)
                   go_simp
                   first
                     | (with_reducible refine hK _ ?_; clear hK K)
                     | (apply Exists.intro
                        with_reducible refine ⟨fun _ => ?_, hK _ ?_⟩
                        fail
                        clear hK K))
                with_reducible refine wpQuiet_nil ?_
                intro _ hw'
                obtain ⟨nq, hw''⟩ := hw'
                subst hw''
                go_wp2_with fail
                refine wp_region_quiet_lit (by kernel_rfl) (by kernel_rfl) ?_
                repeat
                  (with_reducible refine wpQuiet_step (fun K hK => ?_)
                   go_simp
                   first
                     | (with_reducible refine hK _ ?_; clear hK K)
                     | (apply Exists.intro
                        with_reducible refine ⟨fun _ => ?_, hK _ ?_⟩
                        fail
                        clear hK K))
                with_reducible refine wpQuiet_nil ?_
                intro _ hw'
                obtain ⟨nq2, hw''⟩ := hw'
                subst hw''
                go_wp2_with fail
                refine (K84.out _).mono ?_
                rintro e w9 ⟨rfl, H9⟩
                go_wp2_with fail
                go_roundw
                case rel => exact .inl ⟨p + 2, fl', by omega, by omega, H9.out.1, (HON.out.dn _).trans H9.out.2, HG2.out⟩
                case measure => simp only [H9.out.1.mE, HD.out.mE]; simp; omega
              · have hno : ∀ h : p + 1 < s.size, s[p + 1] = 10 := fun h => Classical.byContradiction fun hh => hyes ⟨h, hh⟩
                have K84 : Hid (∀ n, Calls Try.prog 84 #[.pointer (some ⟨X, 0, none⟩)] (wr.drewN n) fun r w' => r = .returned (.bool false) ∧ Hid (∃ fl2, Dx w' X s p q.line (q.op : Int) q.bl q.el false wv ev 230 fl2 ∧ Onl X (wr.drewN n) w')) := fun n => pair84_no (HD.out.same (w' := wr.drewN n) rfl) (by omega) hp hno
                have HER := Lib.hid (HG.out.pair_no hp h92 hno)
                clear h92 hno hyes h34 h10
                go_wp2_with fail
                refine wp_region_quiet_lit (by kernel_rfl) (by kernel_rfl) ?_
                repeat
                  (with_reducible refine wpQuiet_step (fun K hK => ?_)
                   go_simp
                   first
                     | (with_reducible refine hK _ ?_; clear hK K)
                     | (apply Exists.intro
                        with_reducible refine ⟨fun _ => ?_, hK _ ?_⟩
                        fail
                        clear hK K))
                with_reducible refine wpQuiet_nil ?_
                intro _ hw'
                obtain ⟨nq, hw''⟩ := hw'
                subst hw''
                go_wp2_with fail
                refine wp_region_quiet_lit (by kernel_rfl) (by kernel_rfl) ?_
                repeat
                  (with_reducible refine wpQuiet_step (fun K hK => ?_)
                   go_simp
                   first
                     | (with_reducible refine hK _ ?_; clear hK K)
                     | (apply Exists.intro
                        with_reducible refine ⟨fun _ => ?_, hK _ ?_⟩
                        fail
                        clear hK K))
                with_reducible refine wpQuiet_nil ?_
                intro _ hw'
                obtain ⟨nq2, hw''⟩ := hw'
                subst hw''
                go_wp2_with fail
                refine (K84.out _).mono ?_
                rintro e w9 ⟨rfl, H9⟩
                go_wp2_with fail
                obtain ⟨fl2, hd2, ho2⟩ := H9.out
                go_roundw
                case rel => exact .inr ⟨p, fl2, hd2, (HON.out.dn _).trans ho2, HER.out⟩
                case measure => simp only [hd2.mE, HD.out.mE]; simp
            · have n92 := u8_ne h92 92 rfl
              have n92b := u8_nb h92 92 rfl
              have HG2 := Lib.hid (HG.out.next hp h10 h34 h92)
              have HF : Hid (∀ n, Dx ((wr.drewN n).setCell ⟨X, 1, none⟩ (.int .i64 ((p : Int) + 1))) X s (p + 1) q.line (q.op : Int) q.bl q.el false wv ev 0 fl' ∧ Onl X w ((wr.drewN n).setCell ⟨X, 1, none⟩ (.int .i64 ((p : Int) + 1)))) := fun n => ⟨(by have := (HD.out.same (w' := wr.drewN n) rfl).p1 (p + 1); simpa using this), (HON.out.dn n).set 1 _⟩
              clear h34 h92 h10
              go_wp2_with fail
              refine wp_region_quiet_lit (by kernel_rfl) (by kernel_rfl) ?_
              repeat
                (with_reducible refine wpQuiet_step (fun K hK => ?_)
                 go_simp
                 first
                   | (with_reducible refine hK _ ?_; clear hK K)
                   | (apply Exists.intro
                      with_reducible refine ⟨fun _ => ?_, hK _ ?_⟩
                      fail
                      clear hK K))
              with_reducible refine wpQuiet_nil ?_
              intro _ hw'
              obtain ⟨nq, hw''⟩ := hw'
              subst hw''
              go_wp2_with fail
              refine wp_region_quiet_lit (by kernel_rfl) (by kernel_rfl) ?_
              repeat
                (with_reducible refine wpQuiet_step (fun K hK => ?_)
                 go_simp
                 first
                   | (with_reducible refine hK _ ?_; clear hK K)
                   | (apply Exists.intro
                      with_reducible refine ⟨fun _ => ?_, hK _ ?_⟩
                      fail
                      clear hK K))
              with_reducible refine wpQuiet_nil ?_
              intro _ hw'
              obtain ⟨nq2, hw''⟩ := hw'
              subst hw''
              go_wp2_with fail
              go_roundw
              case rel => exact .inl ⟨p + 1, fl', by omega, by omega, (HF.out _).1, (HF.out _).2, HG2.out⟩
              case measure => simp only [(HF.out _).1.mE, HD.out.mE]; simp; omega
      · have hp' : (s.size : Int) ≤ (p : Int) := by omega
        have HER := Lib.hid (HG.out.end_ hp)
        have K72 := Lib.hid (fun W => rlines72 s W (by omega))
        have K71 : Hid (∀ n (z : Int), Calls Try.prog 71 #[.pointer (some ⟨X, 0, none⟩), .int .i64 230, .int .i64 z] (wr.drewN n) fun r w' => r = .returned (.tuple #[]) ∧ Hid (Dx w' X s p q.line (q.op : Int) q.bl q.el false wv ev 230 z ∧ Onl X (wr.drewN n) w')) := fun n z => fault71_ok (HD.out.same (w' := wr.drewN n) rfl) 230 z
        go_wp2_with fail
        refine wp_region_quiet_lit (by kernel_rfl) (by kernel_rfl) ?_
        repeat
          (with_reducible refine wpQuiet_step (fun K hK => ?_)
           go_simp
           first
             | (with_reducible refine hK _ ?_; clear hK K)
             | (apply Exists.intro
                with_reducible refine ⟨fun _ => ?_, hK _ ?_⟩
                fail
                clear hK K))
        with_reducible refine wpQuiet_nil ?_
        intro _ hw'
        obtain ⟨nq, hw''⟩ := hw'
        subst hw''
        go_wp2_with fail
        refine (K72.out _).mono ?_
        rintro e w2 ⟨z, rfl, rfl⟩
        go_wp2_with fail
        refine (K71.out _ _).mono ?_
        rintro e w9 ⟨rfl, H9⟩
        go_wp2_with fail
        exact bodyPost_ret (v := .tuple #[]) (by simp [results, Try.results79, go_sem]) rfl ⟨rfl, .inl ⟨HS.out.fail ((HON.out.dn _).trans H9.out.2) H9.out.1 (by decide), HER.out⟩⟩
    · have c9 := hd.c9
      have hlt := hd.lt
      have HDF : Hid (DF B X w0 wr s) := HS.out.fail hon hd (by decide)
      have HER := Lib.hid her
      clear hd hon her hrel
      go_wp2_with fail
      exact bodyPost_ret (v := .tuple #[]) (by simp [results, Try.results79, go_sem]) rfl ⟨rfl, .inl ⟨HDF.out, HER.out⟩⟩
end Go.Proofs.Ytgdkeafjglcgaaa
