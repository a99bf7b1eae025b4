/- A writer's keep: where the tails of a name begin. -/
import Derived.Test.YtfnpiknobmecbaaSql
import Derived.Test.YtfnpiknobmecbaaSqr
import Derived.Test.YtfnpiknobmecbaaSqb3
namespace Go.Proofs.Ytfnpiknobmecbaa
open Go.ChangeShapes Go.WideShapes Go.ChangeAt Go.RowKit Go.Maps Go.Shelf
set_option linter.unusedVariables false
set_option linter.unusedSimpArgs false
attribute [local go_sem] Oper.semAt_some

theorem wpIn_mapUpdate_eq {F : Fence} {n : Nat} {P : Program} {o : Oper} {a : Act} {w w' : World} {K : Act → World → Prop} {Q : Exit → Act → World → Prop} (t : TypeId) (m x v : Operand) (hop : o.op = Op.mapUpdate t m x v) (mv xv vv : Value) (hm : a.eval m = mv) (hx : a.eval x = xv) (hv : a.eval v = vv)
    (hrun : (Instr.mapUpdate t mv xv vv).run P w = .ok () w') (hK : K (a.put o.dst undef) w') : o.wpIn F n P a w K Q := by
  unfold Oper.wpIn
  refine ⟨by simp [Oper.about, hop], ?_⟩
  rw [Oper.semAt_plain F _ _ (by rw [hop]; intro c hc'; cases hc')]
  simp [execOp, hop, hm, hx, hv, hrun, Result.andThen]
  exact hK
theorem PlM.store {W : World} {mb : Nat} {pl : List (ByteArray × Nat)} (h : PlM W mb pl) (t : ByteArray) (ht : t.size ≤ 255) (p : Nat) (hp : p ≤ 70000) (hf : qfind pl t = none) (hl : pl.length ≤ 200000) :
    ∃ W', (Instr.mapUpdate 48 (.map (some mb)) (.string t) (.int .i64 (p : Int))).run Try.prog W = .ok () W' ∧ PlM W' mb ((t, p) :: pl) ∧ W.grownBy W' (some mb) := by
  obtain ⟨M, h1, h2⟩ := h
  have hkey : keyOf Try.prog 9 (.string t) = some (.string t.data.toList) := Go.WideMaps.keyOf_string_mk Try.underlying9 (by unfold maxLen; omega)
  obtain ⟨W', hrun, h3, h4⟩ := h1.store law9 Try.underlying48 (by unfold maxLen; omega) hkey (plainElem_int (e := 3) (q := .i64) (a := (p : Int)) Try.underlying3 (WalkArith.wf_i64 (by omega)))
  exact ⟨W', hrun, PlM.put t p h1.isMap hf h2 h3, h4.grown⟩
theorem ownFrom_grown {β : Type} {w : World} {mb B : Nat} (hB : w.heap.size ≤ B) : OwnFrom (β := β) B (fun _ W => w.grownBy W (some mb)) := by
  intro s A W row hs hg hr
  exact ⟨hg.os.trans hs.os, hg.tape.trans hs.tape, hg.output.trans hs.output, Nat.le_trans hs.size hg.size, fun k hk hne => (hg.block k (Nat.lt_of_lt_of_le hk hs.size) (fun e => by have := (hr k e.symm).1; omega)).trans (hs.block k hk hne)⟩
theorem ownFrom_plm {β : Type} {mb B : Nat} {f : β → List (ByteArray × Nat)} (hB : mb < B) : OwnFrom (β := β) B (fun s W => PlM W mb (f s)) := by
  intro s A W row hs hg hr
  obtain ⟨es, c, e⟩ := hs.isMap
  exact hs.same (hg.block mb (box_lt e) (fun e => by have := (hr mb e.symm).1; omega))
theorem grown_all {w A W : World} {mb : Nat} (h : w.grownBy A (some mb)) (hg : A.grownBy W (some mb)) : w.grownBy W (some mb) :=
  ⟨hg.os.trans h.os, hg.tape.trans h.tape, hg.output.trans h.output, Nat.le_trans h.size hg.size, fun k hk hne => (hg.block k (Nat.lt_of_lt_of_le hk h.size) hne).trans (h.block k hk hne)⟩
theorem grown_far {w A W : World} {mb D : Nat} (h : w.grownBy A (some mb)) (hg : A.grownBy W (some D)) (hD : w.heap.size ≤ D) : w.grownBy W (some mb) :=
  ⟨hg.os.trans h.os, hg.tape.trans h.tape, hg.output.trans h.output, Nat.le_trans h.size hg.size, fun k hk hne => (hg.block k (Nat.lt_of_lt_of_le hk h.size) (fun e => by simp only [Option.some.injEq] at e; omega)).trans (h.block k hk hne)⟩
/-- The map alone has changed: the writer with what is kept now. -/
theorem Wr1.kept {B : Nat} {w w' : World} {g : Nat} {tx : List Int} {pl pl' : List (ByteArray × Nat)} {v : Value} {ys : List Int} {mb : Nat} (h : Wr1 B w g tx pl v ys mb) (hg : w.grownBy w' (some mb)) (hm : PlM w' mb pl') (hB : B ≤ w.heap.size) : Wr1 B w' g tx pl' v ys mb ∧ Fr B w w' := by
  obtain ⟨es, c, e⟩ := h.map.isMap
  refine ⟨⟨?_, h.gB, h.mB, ?_, h.txt, hm⟩, ?_, ?_⟩
  · refine (hg.block g (box_lt h.box) (fun e2 => ?_)).trans h.box
    simp only [Option.some.injEq] at e2
    subst e2; rw [h.box] at e; cases e
  · refine h.own.keepAt (fun k hk hl => hg.block k hl (fun e2 => ?_))
    simp only [Option.some.injEq] at e2
    subst e2
    obtain ⟨_, cs, e1⟩ := h.own.blk5 _ hk
    rw [e1] at e; cases e
  · exact (Below.refl B w).grown hg hB (fun k e2 => by simp only [Option.some.injEq] at e2; subst e2; exact h.mB)
  · intro j cs t fr hj _ _
    refine hg.block j (box_lt hj) (fun e2 => ?_)
    simp only [Option.some.injEq] at e2
    subst e2; rw [hj] at e; cases e
set_option maxRecDepth 100000 in
set_option maxHeartbeats 4000000 in
theorem keep_any (B g : Nat) (tx : List Int) (pl : List (ByteArray × Nat)) (ss : List ByteArray) (own start m : Nat) (w : World) (h : Wr B w g tx pl) (hk : nck ss = 0) (hs : start ≤ 65535) (ho : own ≤ 255) (hm : m ≤ ss.length) (hown : ∀ k, k < ss.length → (k < m ↔ offs ss k < own)) (hpl : pl.length ≤ 100000) (hB : B ≤ w.heap.size) :
    Calls Try.prog 44 #[.pointer (some ⟨g, 0, none⟩), .string (qkey ss), .int .i64 own, .int .i64 start] w fun e w' => e = .returned (.tuple #[]) ∧ Hid (Wr B w' g tx (qkeep pl start m ss) ∧ Fr B w w') := by
  obtain ⟨v, ys, mb, h⟩ := h
  have hg := box_lt h.box
  have c2 : w.cell? ⟨g, 2, none⟩ = some (.map (some mb)) := box_cell h.box 2 _ rfl
  have hlo := labs_of hk
  have hmb : mb < w.heap.size := by obtain ⟨es, cl, e⟩ := h.map.isMap; exact box_lt e
  have HST : Hid (∀ (F : Fence) (m Bs : Nat) (W : World), F.fn 59 → F.round = none → 1 ≤ m → Boxed W Bs 9 (.string (qkey ss)) → SeqStopsK F m Try.prog 59 #[.pointer (some ⟨Bs, 0, none⟩)] (fun x : Ix ss.length => #[Value.int .i64 (offs ss x.1 : Nat)]) (KpS Bs) (fun ys => ys = iup ss.length ss.length) (fun pre => ∃ k, k ≤ ss.length ∧ pre = iup ss.length k) ss.length W) := fun F m Bs W h1 h2 h3 h4 => tails_stops F m h1 h2 h3 Bs ss hk W h4
  have HT : Hid (∀ k, (qkey ss).extract (offs ss k) (qkey ss).size = qkey (ss.drop k) ∧ (qkey (ss.drop k)).size ≤ 255) := fun k => ⟨qkey_tail ss hlo k, by rw [qkey_size]; have := nsz_drop ss k; have := (nck_small hk).1; omega⟩
  have hsz : (qkey ss).size ≤ 255 := by rw [qkey_size]; exact (nck_small hk).1
  have HOL : Hid (∀ k, offs ss k + 1 ≤ (qkey ss).size) := fun k => by rw [qkey_size]; exact offs_le ss k
  obtain ⟨s, hS⟩ : ∃ s, qkey ss = s := ⟨_, rfl⟩
  rw [hS] at hsz HST HT HOL ⊢
  have HS : Hid (qkey ss = s) := hS
  have HW : Hid (Wr1 B w g tx pl v ys mb) := h
  clear hS h
  refine (callsIn_wide (n := 3)).1 ?_
  refine callsIn_of_wp_marks Try.func44 rfl trivial ?_ rfl
  simp only [Try.ntmps44, List.size_toArray, List.length_cons, List.length_nil, Nat.reduceAdd, Nat.reduceSub, Array.replicate_succ, Array.replicate_zero, List.push_toArray, List.append_toArray, List.nil_append, List.cons_append]
  gi_wp2_with (refine ⟨trivial, ?_⟩; gi_at_call 54; refine (callsIn_wide.2 (tails_any _ _)).mono ?_; rintro e w' ⟨rfl, rfl⟩)
  have b0 := ((((Boxed.new w 24 (.pointer (some ⟨g, 0, none⟩))).alloc (.cells #[.string s] 9)).alloc (.cells #[.int .i64 (own : Int)] 3)).alloc (.cells #[.int .i64 (start : Int)] 3)).alloc (.cells #[.string s] 9)
  have b1 := (((Boxed.new (w.alloc (.cells #[.pointer (some ⟨g, 0, none⟩)] 24)) 9 (.string s)).alloc (.cells #[.int .i64 (own : Int)] 3)).alloc (.cells #[.int .i64 (start : Int)] 3)).alloc (.cells #[.string s] 9)
  have b2 := ((Boxed.new ((w.alloc (.cells #[.pointer (some ⟨g, 0, none⟩)] 24)).alloc (.cells #[.string s] 9)) 3 (.int .i64 (own : Int))).alloc (.cells #[.int .i64 (start : Int)] 3)).alloc (.cells #[.string s] 9)
  have b3 := (Boxed.new (((w.alloc (.cells #[.pointer (some ⟨g, 0, none⟩)] 24)).alloc (.cells #[.string s] 9)).alloc (.cells #[.int .i64 (own : Int)] 3)) 3 (.int .i64 (start : Int))).alloc (.cells #[.string s] 9)
  have b4 := Boxed.new ((((w.alloc (.cells #[.pointer (some ⟨g, 0, none⟩)] 24)).alloc (.cells #[.string s] 9)).alloc (.cells #[.int .i64 (own : Int)] 3)).alloc (.cells #[.int .i64 (start : Int)] 3)) 9 (.string s)
  simp only [World.size_alloc] at b1 b2 b3 b4
  have hB0 : Below w.heap.size w (((((w.alloc (.cells #[.pointer (some ⟨g, 0, none⟩)] 24)).alloc (.cells #[.string s] 9)).alloc (.cells #[.int .i64 (own : Int)] 3)).alloc (.cells #[.int .i64 (start : Int)] 3)).alloc (.cells #[.string s] 9)) := (((((Below.refl _ w).alloc (Nat.le_refl _) _).alloc (by simp) _).alloc (by simp; omega) _).alloc (by simp; omega) _).alloc (by simp; omega) _
  have hz0 : (((((w.alloc (.cells #[.pointer (some ⟨g, 0, none⟩)] 24)).alloc (.cells #[.string s] 9)).alloc (.cells #[.int .i64 (own : Int)] 3)).alloc (.cells #[.int .i64 (start : Int)] 3)).alloc (.cells #[.string s] 9)).heap.size = w.heap.size + 5 := by simp
  generalize (((((w.alloc (.cells #[.pointer (some ⟨g, 0, none⟩)] 24)).alloc (.cells #[.string s] 9)).alloc (.cells #[.int .i64 (own : Int)] 3)).alloc (.cells #[.int .i64 (start : Int)] 3)).alloc (.cells #[.string s] 9)) = W0 at *
  have hG0 : w.grownBy W0 (some mb) := ⟨hB0.os, hB0.tape, hB0.output, hB0.size, fun k hk _ => hB0.block k hk⟩
  have hP0 : PlM W0 mb pl := HW.out.map.same (hB0.block mb hmb)
  refine wpIn_rangeFunc_ownG rfl (by omega) (gf := 59) (lb := #[.pointer (some ⟨w.heap.size + 1 + 1 + 1 + 1, 0, none⟩)]) rfl trivial (enters_of Try.func59 (by kernel_rfl) rfl)
    (HST.out Fence.wide _ _ W0 trivial rfl (by omega) b4) kpS_t (kpS_b (w := W0)) (Below.refl _ _) (fun _ => rfl)
    (fun pre W => (((((Boxed W w.heap.size 24 (.pointer (some ⟨g, 0, none⟩)) ∧ Boxed W (w.heap.size + 1) 9 (.string s)) ∧ Boxed W (w.heap.size + 1 + 1) 3 (.int .i64 (own : Int))) ∧ Boxed W (w.heap.size + 1 + 1 + 1) 3 (.int .i64 (start : Int))) ∧ Hid (∀ z ∈ pre, offs ss z.1 < own ∧ start + offs ss z.1 < 16384)) ∧ PlM W mb (kf pl start ss pre)) ∧ w.grownBy W (some mb))
    (fun cc pre W => ((cc = .exit 0 ∧ Hid (∃ (q : List (Ix ss.length)) (y : Ix ss.length), pre = q ++ [y] ∧ (∀ z ∈ q, offs ss z.1 < own ∧ start + offs ss z.1 < 16384) ∧ (own ≤ offs ss y.1 ∨ 16384 ≤ start + offs ss y.1))) ∧ PlM W mb (kf pl start ss pre.dropLast)) ∧ w.grownBy W (some mb))
    (OwnFrom.and (OwnFrom.and (OwnFrom.and (OwnFrom.and (OwnFrom.and (OwnFrom.and ((boxed_own _ _ _).from _) ((boxed_own _ _ _).from _)) ((boxed_own _ _ _).from _)) ((boxed_own _ _ _).from _)) (ownFrom_pure _ _)) (ownFrom_plm (by omega))) (ownFrom_grown (by omega)))
    (fun cc => OwnFrom.and (OwnFrom.and (ownFrom_pure _ _) (ownFrom_plm (by omega))) (ownFrom_grown (by omega)))
    ⟨⟨⟨⟨⟨⟨b0, b1⟩, b2⟩, b3⟩, fun y hy => nomatch hy⟩, hP0⟩, hG0⟩
    (fun y => { tmps := #[.pointer (some ⟨g, 0, none⟩), .string s, .int .i64 (own : Int), .int .i64 (start : Int), .pointer (some ⟨w.heap.size, 0, none⟩), .pointer (some ⟨w.heap.size + 1, 0, none⟩), .pointer (some ⟨w.heap.size + 1 + 1, 0, none⟩), .pointer (some ⟨w.heap.size + 1 + 1 + 1, 0, none⟩), .int .i64 (offs ss y.1 : Nat), undef, undef, .string s, .func (.func 59) #[] #[.pointer (some ⟨w.heap.size + 1 + 1 + 1 + 1, 0, none⟩)], .int .i64 (offs ss y.1 : Nat), undef, undef, undef, undef, undef, undef, undef, undef, undef, undef, undef, undef, undef, undef, undef, undef, undef, undef, undef, undef, undef, undef, undef, undef, undef, undef, undef, undef, undef, undef, undef, undef], defers := [] }) ?assign ?body ?done ?stop
  case assign =>
    intro l y W K hK
    gi_wp2
    exact hK
  case body =>
    rintro l pre ⟨k, hkl⟩ W ⟨⟨⟨⟨⟨⟨hb0, hb1⟩, hb2⟩, hb3⟩, HC⟩, hPl⟩, hGr⟩ hlen
    have d0 := hb0.cell
    have d1 := hb1.cell
    have d2 := hb2.cell
    have d3 := hb3.cell
    clear b0 b1 b2 b3 b4
    have hgm : g ≠ mb := by
      rintro rfl
      obtain ⟨es, c, e⟩ := HW.out.map.isMap
      rw [HW.out.box] at e; cases e
    have dg : W.cell? ⟨g, 2, none⟩ = some (.map (some mb)) := hGr.cell c2 (by simpa using hgm)
    have hgW : g < W.heap.size := Nat.lt_of_lt_of_le hg hGr.size
    obtain ⟨t, ht⟩ : ∃ t, qkey (ss.drop k) = t := ⟨_, rfl⟩
    have hext := (HT.out k).1
    have htz := (HT.out k).2
    have hol := HOL.out k
    rw [ht] at hext htz
    have HFT : Hid (qkey (ss.drop k) = t) := ht
    have HPl : Hid (PlM W mb (kf pl start ss pre)) := hPl
    have HLN : Hid ((kf pl start ss pre).length ≤ 100255) := by
      have h1 := kf_len pl start ss pre
      have h2 := nck_len hk
      show _ ≤ _; omega
    have HKS : Hid (kf pl start ss (pre ++ [⟨k, hkl⟩]) = if (qfind (kf pl start ss pre) t).isSome then kf pl start ss pre else (t, start + offs ss k) :: kf pl start ss pre) := (show _ = _ by rw [kf_snoc, kstep, ht])
    obtain ⟨P, hPo⟩ : ∃ P, offs ss k = P := ⟨_, rfl⟩
    have HPO : Hid (offs ss k = P) := hPo
    rw [hPo] at hol hext HKS ⊢
    have hP1 : (P : Int) ≤ (s.size : Int) := by omega
    have hP2 : (0 : Int) ≤ (P : Int) := by omega
    have HGr : Hid (w.grownBy W (some mb)) := hGr
    have HBx : Hid (((Boxed W w.heap.size 24 (.pointer (some ⟨g, 0, none⟩)) ∧ Boxed W (w.heap.size + 1) 9 (.string s)) ∧ Boxed W (w.heap.size + 1 + 1) 3 (.int .i64 (own : Int))) ∧ Boxed W (w.heap.size + 1 + 1 + 1) 3 (.int .i64 (start : Int))) := ⟨⟨⟨hb0, hb1⟩, hb2⟩, hb3⟩
    clear hPo ht hPl hGr hb0 hb1 hb2 hb3 HST HT HOL hB0 hG0 hP0
    by_cases hbr : own ≤ P ∨ 16384 ≤ start + P
    · have HX : Hid (∃ (q : List (Ix ss.length)) (y : Ix ss.length), pre ++ [⟨k, hkl⟩] = q ++ [y] ∧ (∀ z ∈ q, offs ss z.1 < own ∧ start + offs ss z.1 < 16384) ∧ (own ≤ offs ss y.1 ∨ 16384 ≤ start + offs ss y.1)) := ⟨pre, ⟨k, hkl⟩, rfl, HC.out, by simp only [HPO.out]; exact hbr⟩
      have hfin : PlM W mb (kf pl start ss (pre ++ [(⟨k, hkl⟩ : Ix ss.length)]).dropLast) := by rw [List.dropLast_concat]; exact HPl.out
      have HFin := Lib.hid hfin
      clear hfin
      by_cases h1 : own ≤ P
      · have h1' : (own : Int) ≤ (P : Int) := by omega
        gi_wp2
        exact ⟨KeepsFrom.refl _ _, ⟨⟨rfl, HX⟩, HFin.out⟩, HGr.out⟩
      · have h1' : (P : Int) < (own : Int) := by omega
        have h2' : (16384 : Int) ≤ (start : Int) + (P : Int) := by omega
        gi_wp2
        exact ⟨KeepsFrom.refl _ _, ⟨⟨rfl, HX⟩, HFin.out⟩, HGr.out⟩
    · have h1' : (P : Int) < (own : Int) := by omega
      have h2' : (start : Int) + (P : Int) < 16384 := by omega
      have HN : Hid (∀ z ∈ pre ++ [(⟨k, hkl⟩ : Ix ss.length)], offs ss z.1 < own ∧ start + offs ss z.1 < 16384) := by
        intro z hz
        rcases List.mem_append.1 hz with hz | hz
        · exact HC.out z hz
        · simp at hz; subst hz; simp only [HPO.out]; omega
      have hlk : ∀ k, (Instr.lookup 48 (.map (some mb)) (.string t) true).run Try.prog (W.drewN k) = .ok (.tuple #[.int .i64 ((qfind (kf pl start ss pre) t).getD 0 : Nat), .bool (qfind (kf pl start ss pre) t).isSome]) (W.drewN k) := fun k => (show PlM (W.drewN k) mb (kf pl start ss pre) from HPl.out.same rfl).look t htz
      cases hf : qfind (kf pl start ss pre) t with
      | some p =>
        rw [hf] at hlk HKS
        simp only [Option.getD_some, Option.isSome_some, if_true] at hlk HKS
        have HF : Hid (PlM W mb (kf pl start ss (pre ++ [⟨k, hkl⟩]))) := by rw [HKS.out]; exact HPl.out
        clear hf
        gi_wp2
        refine region_round (F := Fence.wide) rfl (by rfl) (by kernel_rfl) (by kernel_rfl) ?_
        repeat (gi_big_quiet_step (fail))
        refine wpQuietIn_nil ?_
        intro _ hw'
        obtain ⟨nq, hw''⟩ := hw'
        subst hw''
        gi_wp2
        exact ⟨⟨Nat.le_refl _, fun k o _ h _ => h⟩, fun v h => h, ⟨⟨HBx.out, HN⟩, HF.out.same rfl⟩, ⟨HGr.out.os, HGr.out.tape, HGr.out.output, HGr.out.size, HGr.out.block⟩⟩
      | none =>
        rw [hf] at hlk HKS
        simp only [Option.getD_none, Option.isSome_none, Bool.false_eq_true, if_false] at hlk HKS
        have HF : Hid (qfind (kf pl start ss pre) t = none) := hf
        clear hf
        gi_wp2
        refine region_round (F := Fence.wide) rfl (by rfl) (by kernel_rfl) (by kernel_rfl) ?_
        repeat (gi_big_quiet_step (fail))
        refine wpQuietIn_nil ?_
        intro _ hw'
        obtain ⟨nq, hw''⟩ := hw'
        subst hw''
        gi_wp2
        refine region_round_last (F := Fence.wide) (l := [_, _, _, _, _, _, _, _, _, _]) (o := _) rfl (by kernel_rfl) (by kernel_rfl) (by kernel_rfl) (by kernel_rfl) ?_
        repeat (gi_big_quiet_step (fail))
        refine wpQuietIn_nil ?_
        intro _ hw'
        obtain ⟨nq2, hw''⟩ := hw'
        subst hw''
        obtain ⟨W', hrun, hpl', hgr'⟩ := (show PlM ((W.drewN nq).drewN nq2) mb (kf pl start ss pre) from HPl.out.same rfl).store t htz (start + P) (by omega) HF.out (by have := HLN.out; omega)
        have eN : ((start + P : Nat) : Int) = (start : Int) + (P : Int) := by omega
        rw [eN] at hrun
        have hgr2 : W.grownBy W' (some mb) := ⟨hgr'.os, hgr'.tape, hgr'.output, hgr'.size, hgr'.block⟩
        have hb0' := HBx.out.1.1.1.kept hgr2 (by simp; omega)
        have hb1' := HBx.out.1.1.2.kept hgr2 (by simp; omega)
        have hb2' := HBx.out.1.2.kept hgr2 (by simp; omega)
        have hb3' := HBx.out.2.kept hgr2 (by simp; omega)
        have HEND : Hid (KeepsFrom W0.heap.size W W' ∧ KpS (w.heap.size + 1 + 1 + 1 + 1) W W' ∧ (((((Boxed W' w.heap.size 24 (.pointer (some ⟨g, 0, none⟩)) ∧ Boxed W' (w.heap.size + 1) 9 (.string s)) ∧ Boxed W' (w.heap.size + 1 + 1) 3 (.int .i64 (own : Int))) ∧ Boxed W' (w.heap.size + 1 + 1 + 1) 3 (.int .i64 (start : Int))) ∧ Hid (∀ z ∈ pre ++ [(⟨k, hkl⟩ : Ix ss.length)], offs ss z.1 < own ∧ start + offs ss z.1 < 16384)) ∧ PlM W' mb (kf pl start ss (pre ++ [⟨k, hkl⟩]))) ∧ w.grownBy W' (some mb)) :=
          ⟨KeepsFrom.of_grownBy hgr2 (fun j e => by simp only [Option.some.injEq] at e; omega), fun v hv => hv.kept hgr2 (by simp; omega), ⟨⟨⟨⟨⟨hb0', hb1'⟩, hb2'⟩, hb3'⟩, HN⟩, by rw [HKS.out]; exact hpl'⟩, grown_all HGr.out hgr2⟩
        clear hb0' hb1' hb2' hb3' hgr2 hgr' hpl'
        refine wpIn_mapUpdate_eq 48 _ _ _ rfl _ _ _ rfl rfl rfl hrun ?_
        clear hrun
        gi_wp2
        exact HEND.out
  case done =>
    rintro D xs W hD rfl ⟨⟨⟨⟨⟨⟨hb0, hb1⟩, hb2⟩, hb3⟩, HC⟩, hPl⟩, hGr⟩ hK
    have hkf := kf_all pl start m own ss hm hown HC.out
    rw [hkf] at hPl
    have hgD := grown_far hGr (grownBy_putObj' W D (.deferred none)) (by omega)
    obtain ⟨es, cl, e⟩ := hPl.isMap
    have hplD : PlM (W.putObj D (.deferred none)) mb (qkeep pl start m ss) := hPl.same ((grownBy_putObj' W D (.deferred none)).block mb (box_lt e) (by simp; omega))
    have hfin := HW.out.kept hgD hplD hB
    clear b0 b1 b2 b3 b4 HST HT
    gi_wp2
    refine ⟨by simp, .inl ⟨_, _, rfl, run_takeDeferred hK, ?_⟩⟩
    exact ⟨_, results_none rfl _ _ _, rfl, ⟨_, _, _, hfin.1⟩, hfin.2⟩
  case stop =>
    rintro D cc pre W hD ⟨k, hk9, rfl⟩ ⟨⟨⟨rfl, HC⟩, hPl⟩, hGr⟩ hK
    obtain ⟨q, y, e1, e2, e3⟩ := HC.out
    obtain ⟨j, rfl⟩ : ∃ j, k = j + 1 := ⟨k - 1, by cases k with | zero => simp [iup] at e1 | succ k => rfl⟩
    have hjl : j < ss.length := hk9
    rw [iup_succ hjl] at e1 hPl
    obtain ⟨rfl, ey⟩ := List.append_inj' e1 rfl
    have ey' : y = ⟨j, hjl⟩ := by simpa using ey.symm
    subst ey'
    rw [List.dropLast_concat] at hPl
    have hkf := kf_part pl start m own ss hm hown j hjl e2 e3
    rw [hkf] at hPl
    have hgD := grown_far hGr (grownBy_putObj' W D (.deferred none)) (by omega)
    obtain ⟨es, cl, e⟩ := hPl.isMap
    have hplD : PlM (W.putObj D (.deferred none)) mb (qkeep pl start m ss) := hPl.same ((grownBy_putObj' W D (.deferred none)).block mb (box_lt e) (by simp; omega))
    have hfin := HW.out.kept hgD hplD hB
    clear b0 b1 b2 b3 b4 HST HT
    gi_wp2
    refine ⟨by simp, .inl ⟨_, _, rfl, run_takeDeferred hK, ?_⟩⟩
    exact ⟨_, results_none rfl _ _ _, rfl, ⟨_, _, _, hfin.1⟩, hfin.2⟩
end Go.Proofs.Ytfnpiknobmecbaa
