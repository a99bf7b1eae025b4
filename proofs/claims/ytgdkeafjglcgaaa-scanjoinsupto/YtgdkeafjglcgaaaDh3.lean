/- The document's reading: one step, a remark. -/
import Derived.Test.YtgdkeafjglcgaaaDf1
namespace Go.Proofs.Ytgdkeafjglcgaaa
open Go.ChangeShapes Go.WideShapes Go.ChangeAt Go.RowKit
set_option linter.unusedVariables false
set_option linter.unusedSimpArgs false

set_option maxRecDepth 100000 in
set_option maxHeartbeats 4000000 in
theorem step_rem {B X : Nat} {w0 w : World} {s : ByteArray} {q : Cf} {p : Nat} {wv ev : Value} {wS : World} {fl : Int} (L : Nat) (h : DS B X w0 w s q p wv ev wS fl) (hnd : Nd q p) (hs : s.size ≤ 70000) (hp : p < s.size) (hc : s[p] = 59) :
    Calls Try.prog 70 #[.pointer (some ⟨X, 0, none⟩)] w fun r w' => r = .returned (.tuple #[]) ∧ Hid (StD B X w0 s L q p w') := by
  have HS := Lib.hid h
  have HND := Lib.hid hnd
  have c0 := h.bx.c0
  have c1 := h.bx.c1
  have c2 := h.bx.c2
  have c3 := h.bx.c3
  have f1 := h.bx.fz 1
  have f2 := h.bx.fz 2
  have f3 := h.bx.fz 3
  have hlt := h.bx.lt
  have hp' : (p : Int) < (s.size : Int) := by omega
  have hln := hnd.ln
  have hop := hnd.op
  have hes := hnd.es
  have ec : ((s[p].toNat : Nat) : Int) = 59 := by rw [hc]; rfl
  have ecb : (((s[p].toNat : Nat) : Int) == 59) = true := by simpa using ec
  have K78 : Hid (∀ W, Calls Try.prog 78 #[.int .u8 59] W fun e w' => e = .returned (.bool false) ∧ w' = W) := fun W => rblank78 59 W
  have H59 := Lib.hid hc
  have H0 : Hid (goF L q (rst s p) = goF L { q with st := 6 } (rst s (p + 1))) := (by show _ = _; rw [rst_cons hp, hc]; exact d_rem L q _ hnd.st)
  clear h hnd hc
  go_enter Try.func70, Try.ntmps70
  go_wp2_with fail
  refine wp_region_quiet_lit (by kernel_rfl) (by kernel_rfl) ?_
  repeat
    (with_reducible refine wpQuiet_step (fun K hK => ?_)
     go_simp
     first
       | (with_reducible refine hK _ ?_; clear hK K)
       | (apply Exists.intro
          with_reducible refine ⟨fun _ => ?_, hK _ ?_⟩
          fail
          clear hK K))
  with_reducible refine wpQuiet_nil ?_
  intro _ hw'
  obtain ⟨nq, hw''⟩ := hw'
  subst hw''
  go_wp2_with fail
  refine (K78.out _).mono ?_
  rintro e w7 ⟨rfl, rfl⟩
  go_wp2_with fail
  go_loopw [51] (fun y wr => Hid (∃ k, p ≤ k ∧ k ≤ s.size ∧ Dx wr X s k q.line (q.op : Int) q.bl q.el false wv ev 0 fl ∧ Onl X w wr ∧ (k = p ∨ (p < k ∧ goF L q (rst s p) = goF L { q with st := 6 } (rst s k))))) (fun y wr => mE X s wr)
  case atStart => exact ⟨p, Nat.le_refl _, Nat.le_of_lt hp, HS.out.bx.same rfl, (Onl.refl X w).dn _, .inl rfl⟩
  case round =>
    clear c0 c1 c2 c3 f1 f2 f3 hlt
    obtain ⟨k, hk1, hk2, hd, hon, hg⟩ := hrel.out
    have c0 := hd.c0
    have c1 := hd.c1
    have f1 := hd.fz 1
    have hlt := hd.lt
    have HD := Lib.hid hd
    have HON := Lib.hid hon
    clear hd hon hrel
    by_cases hk : k < s.size
    · have hk' : (k : Int) < (s.size : Int) := by omega
      by_cases h10 : s[k] = 10
      · have e10 : ((s[k].toNat : Nat) : Int) = 10 := by rw [h10]; rfl
        have e10b : (((s[k].toNat : Nat) : Int) == 10) = true := by simpa using e10
        have e10c : (((s[k].toNat : Nat) : Int) != 10) = false := by simp [e10]
        have hpk : p < k := by
          rcases hg with rfl | ⟨h, _⟩
          · rw [H59.out] at h10; cases h10
          · exact h
        have HG : Hid (goF L q (rst s p) = goF L q (rst s k)) := (by
          rcases hg with rfl | ⟨_, h⟩
          · omega
          · show _ = _
            rw [h]; exact d_rem_end L q _ HND.out.st (ten_rst (fun _ => h10)))
        clear hg h10
        go_wp2_with fail
        refine wp_region_quiet_lit (by kernel_rfl) (by kernel_rfl) ?_
        repeat
          (with_reducible refine wpQuiet_step (fun K hK => ?_)
           go_simp
           first
             | (with_reducible refine hK _ ?_; clear hK K)
             | (apply Exists.intro
                with_reducible refine ⟨fun _ => ?_, hK _ ?_⟩
                fail
                clear hK K))
        with_reducible refine wpQuiet_nil ?_
        intro _ hw'
        obtain ⟨nq, hw''⟩ := hw'
        subst hw''
        go_wp2_with fail
        go_end0
        exact ⟨rfl, .inr ⟨_, k, wv, ev, wS, fl, HS.out.only (HON.out.dn _) (HD.out.same rfl) rfl rfl, ⟨HND.out.st, HND.out.ws, by omega, by omega, by omega⟩, hpk, hk2, HG.out⟩⟩
      · have n10 := u8_ne h10 10 rfl
        have n10b := u8_nb h10 10 rfl
        have n10c : (((s[k].toNat : Nat) : Int) != 10) = true := by simpa using n10
        have HG : Hid (goF L q (rst s p) = goF L { q with st := 6 } (rst s (k + 1))) := (by
          show _ = _
          rcases hg with rfl | ⟨_, h⟩
          · exact H0.out
          · rw [h, rst_cons hk, d_rem_next L q _ _ h10])
        have HF : Hid (∀ n, Dx ((wr.drewN n).setCell ⟨X, 1, none⟩ (.int .i64 ((k : Int) + 1))) X s (k + 1) q.line (q.op : Int) q.bl q.el false wv ev 0 fl ∧ Onl X w ((wr.drewN n).setCell ⟨X, 1, none⟩ (.int .i64 ((k : Int) + 1)))) := fun n => ⟨(by have := (HD.out.same (w' := wr.drewN n) rfl).p1 (k + 1); simpa using this), (HON.out.dn n).set 1 _⟩
        clear hg h10
        go_wp2_with fail
        refine wp_region_quiet_lit (by kernel_rfl) (by kernel_rfl) ?_
        repeat
          (with_reducible refine wpQuiet_step (fun K hK => ?_)
           go_simp
           first
             | (with_reducible refine hK _ ?_; clear hK K)
             | (apply Exists.intro
                with_reducible refine ⟨fun _ => ?_, hK _ ?_⟩
                fail
                clear hK K))
        with_reducible refine wpQuiet_nil ?_
        intro _ hw'
        obtain ⟨nq, hw''⟩ := hw'
        subst hw''
        go_wp2_with fail
        go_roundw
        case rel => exact ⟨k + 1, by omega, by omega, (HF.out _).1, (HF.out _).2, .inr ⟨by omega, HG.out⟩⟩
        case measure => simp only [(HF.out _).1.mE, HD.out.mE]; simp; omega
    · have hk' : ¬ (k : Int) < (s.size : Int) := by omega
      have hpk : p < k := by omega
      have HG : Hid (goF L q (rst s p) = goF L q (rst s k)) := (by
        show _ = _
        rcases hg with rfl | ⟨_, h⟩
        · omega
        · rw [h]; exact d_rem_end L q _ HND.out.st (ten_rst (fun h => absurd h hk)))
      clear hg
      go_wp2_with fail
      refine wp_region_quiet_lit (by kernel_rfl) (by kernel_rfl) ?_
      repeat
        (with_reducible refine wpQuiet_step (fun K hK => ?_)
         go_simp
         first
           | (with_reducible refine hK _ ?_; clear hK K)
           | (apply Exists.intro
              with_reducible refine ⟨fun _ => ?_, hK _ ?_⟩
              fail
              clear hK K))
      with_reducible refine wpQuiet_nil ?_
      intro _ hw'
      obtain ⟨nq, hw''⟩ := hw'
      subst hw''
      go_wp2_with fail
      go_end0
      exact ⟨rfl, .inr ⟨_, k, wv, ev, wS, fl, HS.out.only (HON.out.dn _) (HD.out.same rfl) rfl rfl, ⟨HND.out.st, HND.out.ws, by omega, by omega, by omega⟩, hpk, hk2, HG.out⟩⟩
end Go.Proofs.Ytgdkeafjglcgaaa
