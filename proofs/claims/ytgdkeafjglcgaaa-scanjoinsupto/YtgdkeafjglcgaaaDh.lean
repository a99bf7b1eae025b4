/- The document's reading: one step, a byte 10, a blank, brackets, words. -/
import Derived.Test.YtgdkeafjglcgaaaDf1
namespace Go.Proofs.Ytgdkeafjglcgaaa
open Go.ChangeShapes Go.WideShapes Go.ChangeAt Go.RowKit
set_option linter.unusedVariables false
set_option linter.unusedSimpArgs false

set_option maxRecDepth 100000 in
set_option maxHeartbeats 4000000 in
theorem step_nl {B X : Nat} {w0 w : World} {s : ByteArray} {q : Cf} {p : Nat} {wv ev : Value} {wS : World} {fl : Int} (L : Nat) (h : DS B X w0 w s q p wv ev wS fl) (hnd : Nd q p) (hs : s.size ≤ 70000) (hp : p < s.size) (hc : s[p] = 10) :
    Calls Try.prog 70 #[.pointer (some ⟨X, 0, none⟩)] w fun r w' => r = .returned (.tuple #[]) ∧ Hid (StD B X w0 s L q p w') := by
  have HS := Lib.hid h
  have HND := Lib.hid hnd
  have c0 := h.bx.c0
  have c1 := h.bx.c1
  have c2 := h.bx.c2
  have c3 := h.bx.c3
  have f1 := h.bx.fz 1
  have f2 := h.bx.fz 2
  have f3 := h.bx.fz 3
  have hlt := h.bx.lt
  have hp' : (p : Int) < (s.size : Int) := by omega
  have hln := hnd.ln
  have hop := hnd.op
  have hes := hnd.es
  have ec : ((s[p].toNat : Nat) : Int) = 10 := by rw [hc]; rfl
  have ecb : (((s[p].toNat : Nat) : Int) == 10) = true := by simpa using ec
  have HG : Hid (goF L q (rst s p) = goF L (nlF q (rst s (p + 1))) (rst s (p + 1))) := (by show _ = _; rw [rst_cons hp, hc]; exact (d_nl L q _ hnd.st).1)
  have HD : Hid (∀ n, DS B X w0 (((w.drewN n).setCell ⟨X, 1, none⟩ (.int .i64 ((p : Int) + 1))).setCell ⟨X, 2, none⟩ (.int .i64 ((q.line : Int) + 1))) s { q with line := q.line + 1 } (p + 1) wv ev wS fl) := fun n => HS.out.only ((((Onl.refl X w).dn n).set 1 _).set 2 _) (by have := (((HS.out.bx.same (w' := w.drewN n) rfl).p1 (p + 1)).p2 (q.line + 1)); simpa using this) rfl rfl
  clear h hnd hc
  by_cases ho : q.op = 0
  · have K69 : Hid (∀ n, Calls Try.prog 69 #[.pointer (some ⟨X, 0, none⟩)] (((w.drewN n).setCell ⟨X, 1, none⟩ (.int .i64 ((p : Int) + 1))).setCell ⟨X, 2, none⟩ (.int .i64 ((q.line : Int) + 1))) fun r w' => r = .returned (.tuple #[]) ∧ Hid (EndP B X w0 s { q with line := q.line + 1 } (p + 1) w')) := fun n => end69 (HD.out n) (by show q.es.length ≤ 1000000; omega)
    have HO := Lib.hid ho
    rw [ho] at c3
    replace c3 : w.cell? ⟨X, 3, none⟩ = some (.int .i64 0) := c3
    clear ho
    go_enter Try.func70, Try.ntmps70
    go_wp2_with fail
    refine wp_region_quiet_lit (by kernel_rfl) (by kernel_rfl) ?_
    repeat
      (with_reducible refine wpQuiet_step (fun K hK => ?_)
       go_simp
       first
         | (with_reducible refine hK _ ?_; clear hK K)
         | (apply Exists.intro
            with_reducible refine ⟨fun _ => ?_, hK _ ?_⟩
            fail
            clear hK K))
    with_reducible refine wpQuiet_nil ?_
    intro _ hw'
    obtain ⟨nq, hw''⟩ := hw'
    subst hw''
    go_wp2_with fail
    refine (K69.out _).mono ?_
    rintro e w9 ⟨rfl, H9⟩
    go_wp2_with fail
    go_end0
    refine ⟨rfl, .inr ?_⟩
    obtain ⟨wv', ev', wS', fl', hds⟩ := H9.out
    have hn : nlF q (rst s (p + 1)) = beginF (closeF { q with line := q.line + 1 }) (s.data.toList.drop (p + 1)) := by unfold nlF; rw [if_pos HO.out]; rfl
    have hcl := close_nb { q with line := q.line + 1 }
    refine ⟨_, p + 1, wv', ev', wS', fl', hds, ⟨HND.out.st, by simp [beginF], ?_, ?_, ?_⟩, by omega, by omega, by rw [HG.out, hn]⟩
    · show (closeF { q with line := q.line + 1 }).es.length ≤ p + 1
      simp only at hcl; omega
    · show q.line + 1 ≤ p + 1 + 1; omega
    · show q.op ≤ p + 1; omega
  · have ho1 : ¬ (q.op : Int) = 0 := by omega
    have ho2 : ((q.op : Int) == 0) = false := by simpa using ho1
    have HO := Lib.hid ho
    clear ho
    go_enter Try.func70, Try.ntmps70
    go_wp2_with fail
    refine wp_region_quiet_lit (by kernel_rfl) (by kernel_rfl) ?_
    repeat
      (with_reducible refine wpQuiet_step (fun K hK => ?_)
       go_simp
       first
         | (with_reducible refine hK _ ?_; clear hK K)
         | (apply Exists.intro
            with_reducible refine ⟨fun _ => ?_, hK _ ?_⟩
            fail
            clear hK K))
    with_reducible refine wpQuiet_nil ?_
    intro _ hw'
    obtain ⟨nq, hw''⟩ := hw'
    subst hw''
    go_wp2_with fail
    go_end0
    have hn : nlF q (rst s (p + 1)) = { q with line := q.line + 1 } := by unfold nlF; rw [if_neg HO.out]
    exact ⟨rfl, .inr ⟨_, p + 1, wv, ev, wS, fl, HD.out _, ⟨HND.out.st, HND.out.ws, by show q.es.length ≤ p + 1; omega, by show q.line + 1 ≤ p + 1 + 1; omega, by show q.op ≤ p + 1; omega⟩, by omega, by omega, by rw [HG.out, hn]⟩⟩
set_option maxRecDepth 100000 in
set_option maxHeartbeats 4000000 in
theorem step_blank {B X : Nat} {w0 w : World} {s : ByteArray} {q : Cf} {p : Nat} {wv ev : Value} {wS : World} {fl : Int} (L : Nat) (h : DS B X w0 w s q p wv ev wS fl) (hnd : Nd q p) (hs : s.size ≤ 70000) (hp : p < s.size) (hc : isB s[p] = true) :
    Calls Try.prog 70 #[.pointer (some ⟨X, 0, none⟩)] w fun r w' => r = .returned (.tuple #[]) ∧ Hid (StD B X w0 s L q p w') := by
  have HS := Lib.hid h
  have HND := Lib.hid hnd
  have c0 := h.bx.c0
  have c1 := h.bx.c1
  have c2 := h.bx.c2
  have c3 := h.bx.c3
  have f1 := h.bx.fz 1
  have f2 := h.bx.fz 2
  have f3 := h.bx.fz 3
  have hlt := h.bx.lt
  have hp' : (p : Int) < (s.size : Int) := by omega
  have hln := hnd.ln
  have hop := hnd.op
  have hes := hnd.es
  have h10 : s[p] ≠ 10 := fun e => by rw [e] at hc; cases hc
  have n10 := u8_ne h10 10 rfl
  have n10b := u8_nb h10 10 rfl
  have HG : Hid (goF L q (rst s p) = goF L q (rst s (p + 1))) := (by show _ = _; rw [rst_cons hp]; exact d_blank L q _ _ hnd.st hc)
  have K78 : Hid (∀ W, Calls Try.prog 78 #[.int .u8 ((s[p].toNat : Nat) : Int)] W fun e w' => e = .returned (.bool true) ∧ w' = W) := fun W => by
    have := rblank78 ((s[p].toNat : Nat) : Int) W
    rw [show isBz ((s[p].toNat : Nat) : Int) = isB s[p] from isBz_bI s[p], hc] at this
    exact this
  have HD : Hid (∀ n, DS B X w0 ((w.drewN n).setCell ⟨X, 1, none⟩ (.int .i64 ((p : Int) + 1))) s q (p + 1) wv ev wS fl) := fun n => HS.out.only (((Onl.refl X w).dn n).set 1 _) (by have := ((HS.out.bx.same (w' := w.drewN n) rfl).p1 (p + 1)); simpa using this) rfl rfl
  clear h hnd hc h10
  go_enter Try.func70, Try.ntmps70
  go_wp2_with fail
  refine wp_region_quiet_lit (by kernel_rfl) (by kernel_rfl) ?_
  repeat
    (with_reducible refine wpQuiet_step (fun K hK => ?_)
     go_simp
     first
       | (with_reducible refine hK _ ?_; clear hK K)
       | (apply Exists.intro
          with_reducible refine ⟨fun _ => ?_, hK _ ?_⟩
          fail
          clear hK K))
  with_reducible refine wpQuiet_nil ?_
  intro _ hw'
  obtain ⟨nq, hw''⟩ := hw'
  subst hw''
  go_wp2_with fail
  refine (K78.out _).mono ?_
  rintro e w7 ⟨rfl, rfl⟩
  go_wp2_with fail
  go_end0
  exact ⟨rfl, .inr ⟨_, p + 1, wv, ev, wS, fl, HD.out _, ⟨HND.out.st, HND.out.ws, by omega, by omega, by omega⟩, by omega, by omega, HG.out⟩⟩
set_option maxRecDepth 100000 in
set_option maxHeartbeats 4000000 in
theorem step_open {B X : Nat} {w0 w : World} {s : ByteArray} {q : Cf} {p : Nat} {wv ev : Value} {wS : World} {fl : Int} (L : Nat) (h : DS B X w0 w s q p wv ev wS fl) (hnd : Nd q p) (hs : s.size ≤ 70000) (hp : p < s.size) (hc : s[p] = 40) :
    Calls Try.prog 70 #[.pointer (some ⟨X, 0, none⟩)] w fun r w' => r = .returned (.tuple #[]) ∧ Hid (StD B X w0 s L q p w') := by
  have HS := Lib.hid h
  have HND := Lib.hid hnd
  have c0 := h.bx.c0
  have c1 := h.bx.c1
  have c2 := h.bx.c2
  have c3 := h.bx.c3
  have f1 := h.bx.fz 1
  have f2 := h.bx.fz 2
  have f3 := h.bx.fz 3
  have hlt := h.bx.lt
  have hp' : (p : Int) < (s.size : Int) := by omega
  have hln := hnd.ln
  have hop := hnd.op
  have hes := hnd.es
  have ec : ((s[p].toNat : Nat) : Int) = 40 := by rw [hc]; rfl
  have ecb : (((s[p].toNat : Nat) : Int) == 40) = true := by simpa using ec
  have K78 : Hid (∀ W, Calls Try.prog 78 #[.int .u8 40] W fun e w' => e = .returned (.bool false) ∧ w' = W) := fun W => rblank78 40 W
  have HG : Hid (goF L q (rst s p) = goF L { q with op := q.op + 1 } (rst s (p + 1))) := (by show _ = _; rw [rst_cons hp, hc]; exact d_open L q _ hnd.st)
  have HD : Hid (∀ n, DS B X w0 (((w.drewN n).setCell ⟨X, 3, none⟩ (.int .i64 ((q.op : Int) + 1))).setCell ⟨X, 1, none⟩ (.int .i64 ((p : Int) + 1))) s { q with op := q.op + 1 } (p + 1) wv ev wS fl) := fun n => HS.out.only ((((Onl.refl X w).dn n).set 3 _).set 1 _) (by have := (((HS.out.bx.same (w' := w.drewN n) rfl).p3 ((q.op : Int) + 1)).p1 (p + 1)); simpa using this) rfl rfl
  clear h hnd hc
  go_enter Try.func70, Try.ntmps70
  go_wp2_with fail
  refine wp_region_quiet_lit (by kernel_rfl) (by kernel_rfl) ?_
  repeat
    (with_reducible refine wpQuiet_step (fun K hK => ?_)
     go_simp
     first
       | (with_reducible refine hK _ ?_; clear hK K)
       | (apply Exists.intro
          with_reducible refine ⟨fun _ => ?_, hK _ ?_⟩
          fail
          clear hK K))
  with_reducible refine wpQuiet_nil ?_
  intro _ hw'
  obtain ⟨nq, hw''⟩ := hw'
  subst hw''
  go_wp2_with fail
  refine (K78.out _).mono ?_
  rintro e w7 ⟨rfl, rfl⟩
  go_wp2_with fail
  go_end0
  exact ⟨rfl, .inr ⟨_, p + 1, wv, ev, wS, fl, HD.out _, ⟨HND.out.st, HND.out.ws, by show q.es.length ≤ p + 1; omega, by show q.line ≤ p + 1 + 1; omega, by show q.op + 1 ≤ p + 1; omega⟩, by omega, by omega, HG.out⟩⟩
set_option maxRecDepth 100000 in
set_option maxHeartbeats 4000000 in
theorem step_shut {B X : Nat} {w0 w : World} {s : ByteArray} {q : Cf} {p : Nat} {wv ev : Value} {wS : World} {fl : Int} (L : Nat) (h : DS B X w0 w s q p wv ev wS fl) (hnd : Nd q p) (hs : s.size ≤ 70000) (hp : p < s.size) (hc : s[p] = 41) :
    Calls Try.prog 70 #[.pointer (some ⟨X, 0, none⟩)] w fun r w' => r = .returned (.tuple #[]) ∧ Hid (StD B X w0 s L q p w') := by
  have HS := Lib.hid h
  have HND := Lib.hid hnd
  have c0 := h.bx.c0
  have c1 := h.bx.c1
  have c2 := h.bx.c2
  have c3 := h.bx.c3
  have f1 := h.bx.fz 1
  have f2 := h.bx.fz 2
  have f3 := h.bx.fz 3
  have hlt := h.bx.lt
  have hp' : (p : Int) < (s.size : Int) := by omega
  have hln := hnd.ln
  have hop := hnd.op
  have hes := hnd.es
  have ec : ((s[p].toNat : Nat) : Int) = 41 := by rw [hc]; rfl
  have ecb : (((s[p].toNat : Nat) : Int) == 41) = true := by simpa using ec
  have K78 : Hid (∀ W, Calls Try.prog 78 #[.int .u8 41] W fun e w' => e = .returned (.bool false) ∧ w' = W) := fun W => rblank78 41 W
  by_cases ho : q.op = 0
  · have HER : Hid (Er (goF L q (rst s p))) := (by show Er _; rw [rst_cons hp, hc]; exact d_shut_no L q _ hnd.st ho)
    have HD : Hid (∀ n, Dx (((w.drewN n).setCell ⟨X, 1, none⟩ (.int .i64 ((p : Int) + 1))).setCell ⟨X, 3, none⟩ (.int .i64 (-1))) X s (p + 1) q.line (-1) q.bl q.el false wv ev 0 fl ∧ Onl X w (((w.drewN n).setCell ⟨X, 1, none⟩ (.int .i64 ((p : Int) + 1))).setCell ⟨X, 3, none⟩ (.int .i64 (-1)))) := fun n => ⟨(by have := (((HS.out.bx.same (w' := w.drewN n) rfl).p1 (p + 1)).p3 (-1)); simpa using this), (((Onl.refl X w).dn n).set 1 _).set 3 _⟩
    have K71 : Hid (∀ n, Calls Try.prog 71 #[.pointer (some ⟨X, 0, none⟩), .int .i64 230, .int .i64 (q.line : Int)] (((w.drewN n).setCell ⟨X, 1, none⟩ (.int .i64 ((p : Int) + 1))).setCell ⟨X, 3, none⟩ (.int .i64 (-1))) fun r w' => r = .returned (.tuple #[]) ∧ Hid (Dx w' X s (p + 1) q.line (-1) q.bl q.el false wv ev 230 (q.line : Int) ∧ Onl X (((w.drewN n).setCell ⟨X, 1, none⟩ (.int .i64 ((p : Int) + 1))).setCell ⟨X, 3, none⟩ (.int .i64 (-1))) w')) := fun n => fault71_ok (HD.out n).1 230 (q.line : Int)
    rw [ho] at c3
    replace c3 : w.cell? ⟨X, 3, none⟩ = some (.int .i64 0) := c3
    clear h hnd hc ho
    go_enter Try.func70, Try.ntmps70
    go_wp2_with fail
    refine wp_region_quiet_lit (by kernel_rfl) (by kernel_rfl) ?_
    repeat
      (with_reducible refine wpQuiet_step (fun K hK => ?_)
       go_simp
       first
         | (with_reducible refine hK _ ?_; clear hK K)
         | (apply Exists.intro
            with_reducible refine ⟨fun _ => ?_, hK _ ?_⟩
            fail
            clear hK K))
    with_reducible refine wpQuiet_nil ?_
    intro _ hw'
    obtain ⟨nq, hw''⟩ := hw'
    subst hw''
    go_wp2_with fail
    refine (K78.out _).mono ?_
    rintro e w7 ⟨rfl, rfl⟩
    go_wp2_with fail
    refine (K71.out _).mono ?_
    rintro e w9 ⟨rfl, H9⟩
    go_wp2_with fail
    go_end0
    exact ⟨rfl, .inl ⟨HS.out.fail ((HD.out _).2.trans H9.out.2) H9.out.1 (by decide), HER.out⟩⟩
  · have HG : Hid (goF L q (rst s p) = goF L { q with op := q.op - 1 } (rst s (p + 1))) := (by show _ = _; rw [rst_cons hp, hc]; exact d_shut L q _ hnd.st ho)
    have e1 : ((q.op - 1 : Nat) : Int) = (q.op : Int) - 1 := by omega
    have HD : Hid (∀ n, DS B X w0 (((w.drewN n).setCell ⟨X, 1, none⟩ (.int .i64 ((p : Int) + 1))).setCell ⟨X, 3, none⟩ (.int .i64 ((q.op : Int) - 1))) s { q with op := q.op - 1 } (p + 1) wv ev wS fl) := fun n => HS.out.only ((((Onl.refl X w).dn n).set 1 _).set 3 _) (by have := (((HS.out.bx.same (w' := w.drewN n) rfl).p1 (p + 1)).p3 ((q.op : Int) - 1)); simp only [e1]; simpa using this) rfl rfl
    have ho1 : ¬ (q.op : Int) - 1 < 0 := by omega
    clear h hnd hc ho
    go_enter Try.func70, Try.ntmps70
    go_wp2_with fail
    refine wp_region_quiet_lit (by kernel_rfl) (by kernel_rfl) ?_
    repeat
      (with_reducible refine wpQuiet_step (fun K hK => ?_)
       go_simp
       first
         | (with_reducible refine hK _ ?_; clear hK K)
         | (apply Exists.intro
            with_reducible refine ⟨fun _ => ?_, hK _ ?_⟩
            fail
            clear hK K))
    with_reducible refine wpQuiet_nil ?_
    intro _ hw'
    obtain ⟨nq, hw''⟩ := hw'
    subst hw''
    go_wp2_with fail
    refine (K78.out _).mono ?_
    rintro e w7 ⟨rfl, rfl⟩
    go_wp2_with fail
    go_end0
    exact ⟨rfl, .inr ⟨_, p + 1, wv, ev, wS, fl, HD.out _, ⟨HND.out.st, HND.out.ws, by show q.es.length ≤ p + 1; omega, by show q.line ≤ p + 1 + 1; omega, by show q.op - 1 ≤ p + 1; omega⟩, by omega, by omega, HG.out⟩⟩
set_option maxRecDepth 100000 in
set_option maxHeartbeats 4000000 in
theorem step_quot {B X : Nat} {w0 w : World} {s : ByteArray} {q : Cf} {p : Nat} {wv ev : Value} {wS : World} {fl : Int} (L : Nat) (h : DS B X w0 w s q p wv ev wS fl) (hnd : Nd q p) (hs : s.size ≤ 70000) (hp : p < s.size) (hc : s[p] = 34) (K : ∀ W wv ev wS fl, DS B X w0 W s q p wv ev wS fl → Calls Try.prog 79 #[.pointer (some ⟨X, 0, none⟩)] W fun r w' => r = .returned (.tuple #[]) ∧ Hid (StD B X w0 s L q p w')) :
    Calls Try.prog 70 #[.pointer (some ⟨X, 0, none⟩)] w fun r w' => r = .returned (.tuple #[]) ∧ Hid (StD B X w0 s L q p w') := by
  have HS := Lib.hid h
  have HND := Lib.hid hnd
  have c0 := h.bx.c0
  have c1 := h.bx.c1
  have c2 := h.bx.c2
  have c3 := h.bx.c3
  have f1 := h.bx.fz 1
  have f2 := h.bx.fz 2
  have f3 := h.bx.fz 3
  have hlt := h.bx.lt
  have hp' : (p : Int) < (s.size : Int) := by omega
  have hln := hnd.ln
  have hop := hnd.op
  have hes := hnd.es
  have ec : ((s[p].toNat : Nat) : Int) = 34 := by rw [hc]; rfl
  have ecb : (((s[p].toNat : Nat) : Int) == 34) = true := by simpa using ec
  have K78 : Hid (∀ W, Calls Try.prog 78 #[.int .u8 34] W fun e w' => e = .returned (.bool false) ∧ w' = W) := fun W => rblank78 34 W
  have K79 : Hid (∀ n, Calls Try.prog 79 #[.pointer (some ⟨X, 0, none⟩)] (w.drewN n) fun r w' => r = .returned (.tuple #[]) ∧ Hid (StD B X w0 s L q p w')) := fun n => K _ _ _ _ _ (h.only ((Onl.refl X w).dn n) (h.bx.same (w' := w.drewN n) rfl) rfl rfl)
  clear h hnd hc K
  go_enter Try.func70, Try.ntmps70
  go_wp2_with fail
  refine wp_region_quiet_lit (by kernel_rfl) (by kernel_rfl) ?_
  repeat
    (with_reducible refine wpQuiet_step (fun K hK => ?_)
     go_simp
     first
       | (with_reducible refine hK _ ?_; clear hK K)
       | (apply Exists.intro
          with_reducible refine ⟨fun _ => ?_, hK _ ?_⟩
          fail
          clear hK K))
  with_reducible refine wpQuiet_nil ?_
  intro _ hw'
  obtain ⟨nq, hw''⟩ := hw'
  subst hw''
  go_wp2_with fail
  refine (K78.out _).mono ?_
  rintro e w7 ⟨rfl, rfl⟩
  go_wp2_with fail
  refine (K79.out _).mono ?_
  rintro e w9 ⟨rfl, H9⟩
  go_wp2_with fail
  go_end0
  exact ⟨rfl, H9⟩
set_option maxRecDepth 100000 in
set_option maxHeartbeats 4000000 in
theorem step_word {B X : Nat} {w0 w : World} {s : ByteArray} {q : Cf} {p : Nat} {wv ev : Value} {wS : World} {fl : Int} (L : Nat) (h : DS B X w0 w s q p wv ev wS fl) (hnd : Nd q p) (hs : s.size ≤ 70000) (hp : p < s.size) (hc : endsW s[p] = false) (h34 : s[p] ≠ 34) (K : ∀ W wv ev wS fl, DS B X w0 W s q p wv ev wS fl → Calls Try.prog 80 #[.pointer (some ⟨X, 0, none⟩)] W fun r w' => r = .returned (.tuple #[]) ∧ Hid (StD B X w0 s L q p w')) :
    Calls Try.prog 70 #[.pointer (some ⟨X, 0, none⟩)] w fun r w' => r = .returned (.tuple #[]) ∧ Hid (StD B X w0 s L q p w') := by
  have HS := Lib.hid h
  have HND := Lib.hid hnd
  have c0 := h.bx.c0
  have c1 := h.bx.c1
  have c2 := h.bx.c2
  have c3 := h.bx.c3
  have f1 := h.bx.fz 1
  have f2 := h.bx.fz 2
  have f3 := h.bx.fz 3
  have hlt := h.bx.lt
  have hp' : (p : Int) < (s.size : Int) := by omega
  have hln := hnd.ln
  have hop := hnd.op
  have hes := hnd.es
  obtain ⟨h10, h59, h40, h41, hb⟩ := ends_not hc
  have n10 := u8_ne h10 10 rfl
  have n10b := u8_nb h10 10 rfl
  have n59 := u8_ne h59 59 rfl
  have n59b := u8_nb h59 59 rfl
  have n40 := u8_ne h40 40 rfl
  have n40b := u8_nb h40 40 rfl
  have n41 := u8_ne h41 41 rfl
  have n41b := u8_nb h41 41 rfl
  have n34 := u8_ne h34 34 rfl
  have n34b := u8_nb h34 34 rfl
  have K78 : Hid (∀ W, Calls Try.prog 78 #[.int .u8 ((s[p].toNat : Nat) : Int)] W fun e w' => e = .returned (.bool false) ∧ w' = W) := fun W => by
    have := rblank78 ((s[p].toNat : Nat) : Int) W
    rw [show isBz ((s[p].toNat : Nat) : Int) = isB s[p] from isBz_bI s[p], hb] at this
    exact this
  have K80 : Hid (∀ n, Calls Try.prog 80 #[.pointer (some ⟨X, 0, none⟩)] (w.drewN n) fun r w' => r = .returned (.tuple #[]) ∧ Hid (StD B X w0 s L q p w')) := fun n => K _ _ _ _ _ (h.only ((Onl.refl X w).dn n) (h.bx.same (w' := w.drewN n) rfl) rfl rfl)
  clear h hnd hc K h10 h59 h40 h41 hb h34
  go_enter Try.func70, Try.ntmps70
  go_wp2_with fail
  refine wp_region_quiet_lit (by kernel_rfl) (by kernel_rfl) ?_
  repeat
    (with_reducible refine wpQuiet_step (fun K hK => ?_)
     go_simp
     first
       | (with_reducible refine hK _ ?_; clear hK K)
       | (apply Exists.intro
          with_reducible refine ⟨fun _ => ?_, hK _ ?_⟩
          fail
          clear hK K))
  with_reducible refine wpQuiet_nil ?_
  intro _ hw'
  obtain ⟨nq, hw''⟩ := hw'
  subst hw''
  go_wp2_with fail
  refine (K78.out _).mono ?_
  rintro e w7 ⟨rfl, rfl⟩
  go_wp2_with fail
  refine (K80.out _).mono ?_
  rintro e w9 ⟨rfl, H9⟩
  go_wp2_with fail
  go_end0
  exact ⟨rfl, H9⟩
end Go.Proofs.Ytgdkeafjglcgaaa
