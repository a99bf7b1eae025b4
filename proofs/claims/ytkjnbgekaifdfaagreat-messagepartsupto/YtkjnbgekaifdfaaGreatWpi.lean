/- Texts laid together, in parts: Mwk Mwb Mwc Hix Mwd Mwe Mwf Mwg Vo Vu Mwh Sqo. -/
import Derived.Test.YtkjnbgekaifdfaaGreatWph
import Derived.Laws.CopyRow
import Derived.Deep.RegionLaw
import Derived.Deep.CutBlock
import Derived.Deep.RegionHeld3
import Derived.Deep.QuietTactic
import Derived.BigQuiet
set_option maxRecDepth 100000
set_option linter.unusedVariables false
set_option linter.unusedSimpArgs false
namespace Go.Proofs.YtkjnbgekaifdfaaGreat
open Go.ChangeShapes Go.WideShapes Go.ChangeAt Go.RowKit Go.Maps Go.Shelf
attribute [local go_sem] Oper.semAt_some
set_option maxHeartbeats 4000000 in
theorem keep_anyx (B g : Nat) (tx : List Int) (pl : List (ByteArray × Nat)) (ss : List ByteArray) (own start m : Nat) (w : World) (h : Wr B w g tx pl) (hk : nck ss = 0) (hs : start <= 65535) (ho : own <= 255) (hm : m <= ss.length) (hown : ∀ k, k < ss.length -> (k < m ↔ offs ss k < own)) (hpl : pl.length <= 100000) (hB : B <= w.heap.size) :
   Calls Tryz.prog 124 #[.pointer (some ⟨g, 0, none⟩), .string (qkey ss), .int .i64 own, .int .i64 start] w fun e w' => e = .returned (.tuple #[]) /\ Hid (Wr B w' g tx (qkeep pl start m ss) /\ Fr B w w' /\ Fx g w w') := by
 obtain ⟨v, ys, mb, h⟩ := h
 have hg := box_lt h.box
 have c2 : w.cell? ⟨g, 2, none⟩ = some (.map (some mb)) := box_cell h.box 2 _ rfl
 have hlo := labs_of hk
 have hmb : mb < w.heap.size := by obtain ⟨es, cl, e⟩ := h.map.isMap; exact box_lt e
 have HST : Hid (∀ (F : Fence) (m Bs : Nat) (W : World), F.fn 148 -> F.round = none -> 1 <= m -> Boxed W Bs 9 (.string (qkey ss)) -> SeqStopsK F m Tryz.prog 148 #[.pointer (some ⟨Bs, 0, none⟩)] (fun x : Ix ss.length => #[Value.int .i64 (offs ss x.1 : Nat)]) (KpS Bs) (fun ys => ys = iup ss.length ss.length) (fun pre => ∃ k, k <= ss.length /\ pre = iup ss.length k) ss.length W) := fun F m Bs W h1 h2 h3 h4 => tails_stops F m h1 h2 h3 Bs ss hk W h4
 have HT : Hid (∀ k, (qkey ss).extract (offs ss k) (qkey ss).size = qkey (ss.drop k) /\ (qkey (ss.drop k)).size <= 255) := fun k => ⟨qkey_tail ss hlo k, by rw [qkey_size]; have := nsz_drop ss k; have := (nck_small hk).1; omega⟩
 have hsz : (qkey ss).size <= 255 := by rw [qkey_size]; exact (nck_small hk).1
 have HOL : Hid (∀ k, offs ss k + 1 <= (qkey ss).size) := fun k => by rw [qkey_size]; exact offs_le ss k
 obtain ⟨s, hS⟩ : ∃ s, qkey ss = s := ⟨_, rfl⟩
 rw [hS] at hsz HST HT HOL ⊢
 have HS : Hid (qkey ss = s) := hS
 have HW : Hid (Wr1 B w g tx pl v ys mb) := h
 clear hS h
 refine (callsIn_wide (n := 3)).1 ?_
 refine callsIn_of_wp_marks Tryz.func124 rfl trivial ?_ rfl
 simp only [Tryz.ntmps124, List.size_toArray, List.length_cons, List.length_nil, Nat.reduceAdd, Nat.reduceSub, Array.replicate_succ, Array.replicate_zero, List.push_toArray, List.append_toArray, List.nil_append, List.cons_append]
 gi_wp2_with (refine ⟨trivial, ?_⟩; gi_at_call 134; refine (callsIn_wide.2 (tails_any _ _)).mono ?_; rintro e w' ⟨rfl, rfl⟩)
 have b0 := ((((Boxed.new w 91 (.pointer (some ⟨g, 0, none⟩))).alloc (.cells #[.string s] 9)).alloc (.cells #[.int .i64 (own : Int)] 3)).alloc (.cells #[.int .i64 (start : Int)] 3)).alloc (.cells #[.string s] 9)
 have b1 := (((Boxed.new (w.alloc (.cells #[.pointer (some ⟨g, 0, none⟩)] 91)) 9 (.string s)).alloc (.cells #[.int .i64 (own : Int)] 3)).alloc (.cells #[.int .i64 (start : Int)] 3)).alloc (.cells #[.string s] 9)
 have b2 := ((Boxed.new ((w.alloc (.cells #[.pointer (some ⟨g, 0, none⟩)] 91)).alloc (.cells #[.string s] 9)) 3 (.int .i64 (own : Int))).alloc (.cells #[.int .i64 (start : Int)] 3)).alloc (.cells #[.string s] 9)
 have b3 := (Boxed.new (((w.alloc (.cells #[.pointer (some ⟨g, 0, none⟩)] 91)).alloc (.cells #[.string s] 9)).alloc (.cells #[.int .i64 (own : Int)] 3)) 3 (.int .i64 (start : Int))).alloc (.cells #[.string s] 9)
 have b4 := Boxed.new ((((w.alloc (.cells #[.pointer (some ⟨g, 0, none⟩)] 91)).alloc (.cells #[.string s] 9)).alloc (.cells #[.int .i64 (own : Int)] 3)).alloc (.cells #[.int .i64 (start : Int)] 3)) 9 (.string s)
 simp only [World.size_alloc] at b1 b2 b3 b4
 have hB0 : Below w.heap.size w (((((w.alloc (.cells #[.pointer (some ⟨g, 0, none⟩)] 91)).alloc (.cells #[.string s] 9)).alloc (.cells #[.int .i64 (own : Int)] 3)).alloc (.cells #[.int .i64 (start : Int)] 3)).alloc (.cells #[.string s] 9)) := (((((Below.refl _ w).alloc (Nat.le_refl _) _).alloc (by simp) _).alloc (by simp; omega) _).alloc (by simp; omega) _).alloc (by simp; omega) _
 have hz0 : (((((w.alloc (.cells #[.pointer (some ⟨g, 0, none⟩)] 91)).alloc (.cells #[.string s] 9)).alloc (.cells #[.int .i64 (own : Int)] 3)).alloc (.cells #[.int .i64 (start : Int)] 3)).alloc (.cells #[.string s] 9)).heap.size = w.heap.size + 5 := by simp
 generalize (((((w.alloc (.cells #[.pointer (some ⟨g, 0, none⟩)] 91)).alloc (.cells #[.string s] 9)).alloc (.cells #[.int .i64 (own : Int)] 3)).alloc (.cells #[.int .i64 (start : Int)] 3)).alloc (.cells #[.string s] 9)) = W0 at *
 have hG0 : w.grownBy W0 (some mb) := ⟨hB0.os, hB0.tape, hB0.output, hB0.size, fun k hk _ => hB0.block k hk⟩
 have hP0 : PlM W0 mb pl := HW.out.map.same (hB0.block mb hmb)
 refine wpIn_rangeFunc_ownG rfl (by omega) (gf := 148) (lb := #[.pointer (some ⟨w.heap.size + 1 + 1 + 1 + 1, 0, none⟩)]) rfl trivial (enters_of Tryz.func148 (by kernel_rfl) rfl)
   (HST.out Fence.wide _ _ W0 trivial rfl (by omega) b4) kpS_t (kpS_b (w := W0)) (Below.refl _ _) (fun _ => rfl)
   (fun pre W => (((((Boxed W w.heap.size 91 (.pointer (some ⟨g, 0, none⟩)) /\ Boxed W (w.heap.size + 1) 9 (.string s)) /\ Boxed W (w.heap.size + 1 + 1) 3 (.int .i64 (own : Int))) /\ Boxed W (w.heap.size + 1 + 1 + 1) 3 (.int .i64 (start : Int))) /\ Hid (∀ z ∈ pre, offs ss z.1 < own /\ start + offs ss z.1 < 16384)) /\ PlM W mb (kf pl start ss pre)) /\ w.grownBy W (some mb))
   (fun cc pre W => ((cc = .exit 0 /\ Hid (∃ (q : List (Ix ss.length)) (y : Ix ss.length), pre = q ++ [y] /\ (∀ z ∈ q, offs ss z.1 < own /\ start + offs ss z.1 < 16384) /\ (own <= offs ss y.1 ∨ 16384 <= start + offs ss y.1))) /\ PlM W mb (kf pl start ss pre.dropLast)) /\ w.grownBy W (some mb))
   (OwnFrom.and (OwnFrom.and (OwnFrom.and (OwnFrom.and (OwnFrom.and (OwnFrom.and ((boxed_own _ _ _).from _) ((boxed_own _ _ _).from _)) ((boxed_own _ _ _).from _)) ((boxed_own _ _ _).from _)) (ownFrom_pure _ _)) (ownFrom_plm (by omega))) (ownFrom_grown (by omega)))
   (fun cc => OwnFrom.and (OwnFrom.and (ownFrom_pure _ _) (ownFrom_plm (by omega))) (ownFrom_grown (by omega)))
   ⟨⟨⟨⟨⟨⟨b0, b1⟩, b2⟩, b3⟩, fun y hy => nomatch hy⟩, hP0⟩, hG0⟩
   (fun y => { tmps := #[.pointer (some ⟨g, 0, none⟩), .string s, .int .i64 (own : Int), .int .i64 (start : Int), .pointer (some ⟨w.heap.size, 0, none⟩), .pointer (some ⟨w.heap.size + 1, 0, none⟩), .pointer (some ⟨w.heap.size + 1 + 1, 0, none⟩), .pointer (some ⟨w.heap.size + 1 + 1 + 1, 0, none⟩), .int .i64 (offs ss y.1 : Nat), undef, undef, .string s, .func (.func 148) #[] #[.pointer (some ⟨w.heap.size + 1 + 1 + 1 + 1, 0, none⟩)], .int .i64 (offs ss y.1 : Nat), undef, undef, undef, undef, undef, undef, undef, undef, undef, undef, undef, undef, undef, undef, undef, undef, undef, undef, undef, undef, undef, undef, undef, undef, undef, undef, undef, undef, undef, undef, undef, undef], defers := [] }) ?assign ?body ?done ?stop
 case assign =>
   intro l y W K hK
   gi_wp2
   exact hK
 case body =>
   rintro l pre ⟨k, hkl⟩ W ⟨⟨⟨⟨⟨⟨hb0, hb1⟩, hb2⟩, hb3⟩, HC⟩, hPl⟩, hGr⟩ hlen
   have d0 := hb0.cell
   have d1 := hb1.cell
   have d2 := hb2.cell
   have d3 := hb3.cell
   clear b0 b1 b2 b3 b4
   have hgm : g ≠ mb := by
     rintro rfl
     obtain ⟨es, c, e⟩ := HW.out.map.isMap
     rw [HW.out.box] at e; cases e
   have dg : W.cell? ⟨g, 2, none⟩ = some (.map (some mb)) := hGr.cell c2 (by simpa using hgm)
   have hgW : g < W.heap.size := Nat.lt_of_lt_of_le hg hGr.size
   obtain ⟨t, ht⟩ : ∃ t, qkey (ss.drop k) = t := ⟨_, rfl⟩
   have hext := (HT.out k).1
   have htz := (HT.out k).2
   have hol := HOL.out k
   rw [ht] at hext htz
   have HFT : Hid (qkey (ss.drop k) = t) := ht
   have HPl : Hid (PlM W mb (kf pl start ss pre)) := hPl
   have HLN : Hid ((kf pl start ss pre).length <= 100255) := by
     have h1 := kf_len pl start ss pre
     have h2 := nck_len hk
     show _ <= _; omega
   have HKS : Hid (kf pl start ss (pre ++ [⟨k, hkl⟩]) = if (qfind (kf pl start ss pre) t).isSome then kf pl start ss pre else (t, start + offs ss k) :: kf pl start ss pre) := (show _ = _ by rw [kf_snoc, kstep, ht])
   obtain ⟨P, hPo⟩ : ∃ P, offs ss k = P := ⟨_, rfl⟩
   have HPO : Hid (offs ss k = P) := hPo
   rw [hPo] at hol hext HKS ⊢
   have hP1 : (P : Int) <= (s.size : Int) := by omega
   have hP2 : (0 : Int) <= (P : Int) := by omega
   have HGr : Hid (w.grownBy W (some mb)) := hGr
   have HBx : Hid (((Boxed W w.heap.size 91 (.pointer (some ⟨g, 0, none⟩)) /\ Boxed W (w.heap.size + 1) 9 (.string s)) /\ Boxed W (w.heap.size + 1 + 1) 3 (.int .i64 (own : Int))) /\ Boxed W (w.heap.size + 1 + 1 + 1) 3 (.int .i64 (start : Int))) := ⟨⟨⟨hb0, hb1⟩, hb2⟩, hb3⟩
   clear hPo ht hPl hGr hb0 hb1 hb2 hb3 HST HT HOL hB0 hG0 hP0
   by_cases hbr : own <= P ∨ 16384 <= start + P
   · have HX : Hid (∃ (q : List (Ix ss.length)) (y : Ix ss.length), pre ++ [⟨k, hkl⟩] = q ++ [y] /\ (∀ z ∈ q, offs ss z.1 < own /\ start + offs ss z.1 < 16384) /\ (own <= offs ss y.1 ∨ 16384 <= start + offs ss y.1)) := ⟨pre, ⟨k, hkl⟩, rfl, HC.out, by simp only [HPO.out]; exact hbr⟩
     have hfin : PlM W mb (kf pl start ss (pre ++ [(⟨k, hkl⟩ : Ix ss.length)]).dropLast) := by rw [List.dropLast_concat]; exact HPl.out
     have HFin := Lib.hid hfin
     clear hfin
     by_cases h1 : own <= P
     · have h1' : (own : Int) <= (P : Int) := by omega
       gi_wp2
       exact ⟨KeepsFrom.refl _ _, ⟨⟨rfl, HX⟩, HFin.out⟩, HGr.out⟩
     · have h1' : (P : Int) < (own : Int) := by omega
       have h2' : (16384 : Int) <= (start : Int) + (P : Int) := by omega
       gi_wp2
       exact ⟨KeepsFrom.refl _ _, ⟨⟨rfl, HX⟩, HFin.out⟩, HGr.out⟩
   · have h1' : (P : Int) < (own : Int) := by omega
     have h2' : (start : Int) + (P : Int) < 16384 := by omega
     have HN : Hid (∀ z ∈ pre ++ [(⟨k, hkl⟩ : Ix ss.length)], offs ss z.1 < own /\ start + offs ss z.1 < 16384) := by
       intro z hz
       rcases List.mem_append.1 hz with hz | hz
       · exact HC.out z hz
       · simp at hz; subst hz; simp only [HPO.out]; omega
     have hlk : ∀ k, (Instr.lookup 123 (.map (some mb)) (.string t) true).run Tryz.prog (W.drewN k) = .ok (.tuple #[.int .i64 ((qfind (kf pl start ss pre) t).getD 0 : Nat), .bool (qfind (kf pl start ss pre) t).isSome]) (W.drewN k) := fun k => (show PlM (W.drewN k) mb (kf pl start ss pre) from HPl.out.same rfl).look t htz
     cases hf : qfind (kf pl start ss pre) t with
     | some p =>
       rw [hf] at hlk HKS
       simp only [Option.getD_some, Option.isSome_some, if_true] at hlk HKS
       have HF : Hid (PlM W mb (kf pl start ss (pre ++ [⟨k, hkl⟩]))) := by rw [HKS.out]; exact HPl.out
       clear hf
       gi_wp2
       refine region_round (F := Fence.wide) rfl (by rfl) (by kernel_rfl) (by kernel_rfl) ?_
       repeat (gi_big_quiet_step (fail))
       refine wpQuietIn_nil ?_
       intro _ hw'
       obtain ⟨nq, hw''⟩ := hw'
       subst hw''
       gi_wp2
       exact ⟨⟨Nat.le_refl _, fun k o _ h _ => h⟩, fun v h => h, ⟨⟨HBx.out, HN⟩, HF.out.same rfl⟩, ⟨HGr.out.os, HGr.out.tape, HGr.out.output, HGr.out.size, HGr.out.block⟩⟩
     | none =>
       rw [hf] at hlk HKS
       simp only [Option.getD_none, Option.isSome_none, Bool.false_eq_true, if_false] at hlk HKS
       have HF : Hid (qfind (kf pl start ss pre) t = none) := hf
       clear hf
       gi_wp2
       refine region_round (F := Fence.wide) rfl (by rfl) (by kernel_rfl) (by kernel_rfl) ?_
       repeat (gi_big_quiet_step (fail))
       refine wpQuietIn_nil ?_
       intro _ hw'
       obtain ⟨nq, hw''⟩ := hw'
       subst hw''
       gi_wp2
       refine region_round_last (F := Fence.wide) (l := [_, _, _, _, _, _, _, _, _, _]) (o := _) rfl (by kernel_rfl) (by kernel_rfl) (by kernel_rfl) (by kernel_rfl) ?_
       repeat (gi_big_quiet_step (fail))
       refine wpQuietIn_nil ?_
       intro _ hw'
       obtain ⟨nq2, hw''⟩ := hw'
       subst hw''
       obtain ⟨W', hrun, hpl', hgr'⟩ := (show PlM ((W.drewN nq).drewN nq2) mb (kf pl start ss pre) from HPl.out.same rfl).store t htz (start + P) (by omega) HF.out (by have := HLN.out; omega)
       have eN : ((start + P : Nat) : Int) = (start : Int) + (P : Int) := by omega
       rw [eN] at hrun
       have hgr2 : W.grownBy W' (some mb) := ⟨hgr'.os, hgr'.tape, hgr'.output, hgr'.size, hgr'.block⟩
       have hb0' := HBx.out.1.1.1.kept hgr2 (by simp; omega)
       have hb1' := HBx.out.1.1.2.kept hgr2 (by simp; omega)
       have hb2' := HBx.out.1.2.kept hgr2 (by simp; omega)
       have hb3' := HBx.out.2.kept hgr2 (by simp; omega)
       have HEND : Hid (KeepsFrom W0.heap.size W W' /\ KpS (w.heap.size + 1 + 1 + 1 + 1) W W' /\ (((((Boxed W' w.heap.size 91 (.pointer (some ⟨g, 0, none⟩)) /\ Boxed W' (w.heap.size + 1) 9 (.string s)) /\ Boxed W' (w.heap.size + 1 + 1) 3 (.int .i64 (own : Int))) /\ Boxed W' (w.heap.size + 1 + 1 + 1) 3 (.int .i64 (start : Int))) /\ Hid (∀ z ∈ pre ++ [(⟨k, hkl⟩ : Ix ss.length)], offs ss z.1 < own /\ start + offs ss z.1 < 16384)) /\ PlM W' mb (kf pl start ss (pre ++ [⟨k, hkl⟩]))) /\ w.grownBy W' (some mb)) :=
         ⟨KeepsFrom.of_grownBy hgr2 (fun j e => by simp only [Option.some.injEq] at e; omega), fun v hv => hv.kept hgr2 (by simp; omega), ⟨⟨⟨⟨⟨hb0', hb1'⟩, hb2'⟩, hb3'⟩, HN⟩, by rw [HKS.out]; exact hpl'⟩, grown_all HGr.out hgr2⟩
       clear hb0' hb1' hb2' hb3' hgr2 hgr' hpl'
       refine wpIn_mapUpdate_eq 123 _ _ _ rfl _ _ _ rfl rfl rfl hrun ?_
       clear hrun
       gi_wp2
       exact HEND.out
 case done =>
   rintro D xs W hD rfl ⟨⟨⟨⟨⟨⟨hb0, hb1⟩, hb2⟩, hb3⟩, HC⟩, hPl⟩, hGr⟩ hK
   have hkf := kf_all pl start m own ss hm hown HC.out
   rw [hkf] at hPl
   have hgD := grown_far hGr (grownBy_putObj' W D (.deferred none)) (by omega)
   obtain ⟨es, cl, e⟩ := hPl.isMap
   have hplD : PlM (W.putObj D (.deferred none)) mb (qkeep pl start m ss) := hPl.same ((grownBy_putObj' W D (.deferred none)).block mb (box_lt e) (by simp; omega))
   have hfin := HW.out.keptx hgD hplD hB
   clear b0 b1 b2 b3 b4 HST HT
   gi_wp2
   refine ⟨by simp, .inl ⟨_, _, rfl, run_takeDeferred hK, ?_⟩⟩
   exact ⟨_, results_none rfl _ _ _, rfl, ⟨_, _, _, hfin.1⟩, hfin.2⟩
 case stop =>
   rintro D cc pre W hD ⟨k, hk9, rfl⟩ ⟨⟨⟨rfl, HC⟩, hPl⟩, hGr⟩ hK
   obtain ⟨q, y, e1, e2, e3⟩ := HC.out
   obtain ⟨j, rfl⟩ : ∃ j, k = j + 1 := ⟨k - 1, by cases k with | zero => simp [iup] at e1 | succ k => rfl⟩
   have hjl : j < ss.length := hk9
   rw [iup_succ hjl] at e1 hPl
   obtain ⟨rfl, ey⟩ := List.append_inj' e1 rfl
   have ey' : y = ⟨j, hjl⟩ := by simpa using ey.symm
   subst ey'
   rw [List.dropLast_concat] at hPl
   have hkf := kf_part pl start m own ss hm hown j hjl e2 e3
   rw [hkf] at hPl
   have hgD := grown_far hGr (grownBy_putObj' W D (.deferred none)) (by omega)
   obtain ⟨es, cl, e⟩ := hPl.isMap
   have hplD : PlM (W.putObj D (.deferred none)) mb (qkeep pl start m ss) := hPl.same ((grownBy_putObj' W D (.deferred none)).block mb (box_lt e) (by simp; omega))
   have hfin := HW.out.keptx hgD hplD hB
   clear b0 b1 b2 b3 b4 HST HT
   gi_wp2
   refine ⟨by simp, .inl ⟨_, _, rfl, run_takeDeferred hK, ?_⟩⟩
   exact ⟨_, results_none rfl _ _ _, rfl, ⟨_, _, _, hfin.1⟩, hfin.2⟩
end Go.Proofs.YtkjnbgekaifdfaaGreat
namespace Go.Proofs.YtkjnbgekaifdfaaGreat
open Go.ChangeShapes Go.WideShapes Go.ChangeAt Go.RowKit Go.Maps
set_option maxHeartbeats 2000000 in
theorem wname_nox (B g : Nat) (tx : List Int) (pl : List (ByteArray × Nat)) (a : Option Addr) (n c : Nat) (ss : List ByteArray) (back : Bool) (w : World) (h : Wr B w g tx pl) (hN : Arg w a n ss) (hn : n <= 8796093021952) (hk : ¬ nck ss = 0) :
   Calls Tryz.prog 106 #[.pointer (some ⟨g, 0, none⟩), .slice a n c, .bool back] w (NmPostx B g (nck ss, tx, pl) w) := by
 have HW : Hid (Wr B w g tx pl) := h
 obtain ⟨v, ys, mb, h⟩ := h
 have hg := box_lt h.box
 have c0 : w.cell? ⟨g, 0, none⟩ = some (.pointer (some ⟨g, 0, none⟩)) := box_cell h.box 0 _ rfl
 have KM := Lib.hid (made_yes g w c0 hg)
 have KB := Lib.hid (pbytes_bad a n c ss w hN hn hk)
 generalize nck ss = q at *
 have hq : (q != 0) = true := bne_iff_ne.2 hk
 clear h hk hN
 go_enter Tryz.func106, Tryz.ntmps106
 go_wp2_with fail
 refine KM.out.mono ?_
 rintro e w1 ⟨rfl, rfl⟩
 go_wp2_with fail
 refine KB.out.mono ?_
 rintro e w1 ⟨rfl, rfl⟩
 go_wp2
 go_ret
 exact ⟨rfl, HW.out, Fr.refl _ _, Fx.refl _ _⟩
set_option maxHeartbeats 4000000 in
theorem wname_yesx (B g : Nat) (tx : List Int) (pl : List (ByteArray × Nat)) (a : Option Addr) (n c : Nat) (ss : List ByteArray) (back : Bool) (w : World) (h : Wr B w g tx pl) (hN : Arg w a n ss) (hk : nck ss = 0) (hB : B <= w.heap.size) (ht : tx.length <= 65535) (hP : ∀ k p, (k, p) ∈ pl -> p < 16384) (hpl : pl.length <= 100000) :
   Calls Tryz.prog 106 #[.pointer (some ⟨g, 0, none⟩), .slice a n c, .bool back] w (NmPostx B g (wnm tx pl ss back) w) := by
 have HW : Hid (Wr B w g tx pl) := h
 obtain ⟨v, ys, mb, h⟩ := h
 have hg := box_lt h.box
 have c0 : w.cell? ⟨g, 0, none⟩ = some (.pointer (some ⟨g, 0, none⟩)) := box_cell h.box 0 _ rfl
 have c1 : w.cell? ⟨g, 1, none⟩ = some v := box_cell h.box 1 _ rfl
 obtain ⟨aot, hvt, _⟩ := h.own.addr
 obtain ⟨T, hT⟩ : ∃ T, tx.length = T := ⟨_, rfl⟩
 obtain ⟨TC, hTC⟩ : ∃ TC, ys.length = TC := ⟨_, rfl⟩
 rw [hT, hTC] at hvt
 rw [hT] at ht
 subst hvt
 have HT : Hid (tx.length = T) := hT
 have HW1 : Hid (Wr1 B w g tx pl (.slice aot T TC) ys mb) := h
 have KM := Lib.hid (made_yes g w c0 hg)
 have hnb : nbytes ss = (nby ss ++ [0], 0) := by unfold nbytes; rw [if_pos hk]
 have KB := Lib.hid (pbytes_room a n c ss w (hN.nm hk))
 rw [hnb] at KB
 have hln : (nby ss ++ [0]).length = nsz ss := by have := nby_len ss; simp; omega
 simp only [hln] at KB
 obtain ⟨N, hNN⟩ : ∃ N, nsz ss = N := ⟨_, rfl⟩
 rw [hNN] at KB hln
 have hN255 : N <= 255 := by rw [<- hNN]; exact (nck_small hk).1
 have HNN : Hid (nsz ss = N /\ (nby ss ++ [0]).length = N) := ⟨hNN, hln⟩
 have HK : Hid (nck ss = 0) := hk
 have HP : Hid (∀ k p, (k, p) ∈ pl -> p < 16384) := hP
 clear h hN hk hP hT hnb hln hNN hTC
 cases back with
 | true =>
   have HSP : Hid (wnm tx pl ss true = if 65535 < T + (qshort pl ss).length then (3, tx, pl) else (0, tx ++ qshort pl ss, qkeep pl T (qown pl ss) ss)) := (show _ = _ by unfold wnm; rw [if_pos HK.out, HT.out]; rfl)
   have HOW : Hid (qob pl ss <= 255 /\ ∀ k, k < ss.length -> (k < qown pl ss ↔ offs ss k < qob pl ss)) := ⟨qob_le pl ss HK.out, fun k hk => own_iff pl ss k hk⟩
   go_enter Tryz.func106, Tryz.ntmps106
   go_wp2_with fail
   refine KM.out.mono ?_
   rintro e w1 ⟨rfl, rfl⟩
   go_wp2_with fail
   refine KB.out.mono ?_
   rintro e w2 ⟨vb, yb, rfl, H2⟩
   obtain ⟨ab, rfl, _⟩ := H2.out.1.addr
   have HRb : Hid (Rd w2 ab (nby ss ++ [0]) /\ N <= yb.length /\ yb.length <= 140737488355328) := by
     obtain ⟨ab', e, hA⟩ := H2.out.1.addr
     cases e
     have := hA.rdTake N
     rw [H2.out.2.1] at this
     exact ⟨this, hA.le.1, H2.out.2.2.2⟩
   have hg2 : g < w2.heap.size := Nat.lt_of_lt_of_le hg H2.out.2.2.1.size
   have d1 : w2.cell? ⟨g, 1, none⟩ = some (.slice aot T TC) := cell_below H2.out.2.2.1 hg c1
   have KS := Lib.hid (shorten_any B g tx pl ab N yb.length ss w2 (HW.out.below H2.out.2.2.1) HK.out HP.out HRb.out.1 HNN.out.2 HRb.out.2.1 (by have := HRb.out.2.2; omega))
   clear KB
   go_wp2_with fail
   refine KS.out.mono ?_
   rintro e w3 ⟨a3, ns, cs, rfl, H3⟩
   have HV3 : Hid (Wr1 B w3 g tx pl (.slice aot T TC) ys mb /\ Fr B w1 w3 /\ B <= w3.heap.size /\ Own w1.heap.size w3 (.slice ab N yb.length) N yb) :=
     ⟨(HW1.out.below H2.out.2.2.1).below H3.out.2.2.2, (Fr.of H2.out.2.2.1 hB).trans (Fr.of H3.out.2.2.2 (Nat.le_trans hB H2.out.2.2.1.size)), Nat.le_trans hB (Nat.le_trans H2.out.2.2.1.size H3.out.2.2.2.size), H2.out.1.below H3.out.2.2.2⟩
   have HX3 : Hid (Fx g w1 w3) := (Fx.of H2.out.2.2.1 hg).trans (Fx.of H3.out.2.2.2 hg2)
   have HRs : Hid (Rd w3 a3 (qshort pl ss) /\ (qshort pl ss).length = ns /\ (a3 = none -> cs = 0)) := ⟨H3.out.1, H3.out.2.1, H3.out.2.2.1⟩
   have hns : ns <= 255 := by rw [<- H3.out.2.1]; have := (qshort_len pl ss (fun s hs => (chk_ok (labs_of HK.out s hs)).1)).2; have := HNN.out.1; omega
   obtain ⟨ob, hob⟩ : ∃ ob, qob pl ss = ob := ⟨_, rfl⟩
   rw [hob] at HOW ⊢
   clear hob
   have KW := Lib.hid (wbytes1x B g tx pl (.slice aot T TC) ys mb a3 ns cs (qshort pl ss) w3 HV3.out.1 HV3.out.2.2.1 (by rw [HT.out]; exact ht) HRs.out.1 HRs.out.2.1 HRs.out.2.2 (by omega))
   simp only [HT.out] at KW
   rw [HRs.out.2.1] at HSP
   by_cases hbig : 65535 < T + ns
   · rw [if_pos hbig, if_pos hbig] at KW
     rw [if_pos hbig] at HSP
     go_wp2_with fail
     refine KW.out.mono ?_
     rintro e w4 ⟨rfl, H4, HX4⟩
     go_wp2
     go_ret
     rw [HSP.out]
     exact ⟨rfl, H4.out.1, HV3.out.2.1.trans H4.out.2.1, HX3.out.trans HX4.out⟩
   · rw [if_neg hbig, if_neg hbig] at KW
     rw [if_neg hbig] at HSP
     go_wp2_with fail
     refine KW.out.mono ?_
     rintro e w4 ⟨rfl, H4, HX4⟩
     have HO4 : Hid (Rd w4 ab (nby ss ++ [0])) := by
       have := HV3.out.2.2.2.keepAt (w' := w4) (fun j hj hl => H4.out.2.2 j hl (fun e => by subst e; have := (HV3.out.2.2.2.blk5 _ hj).1; omega) (fun e => by have h1 := (HV3.out.2.2.2.blk5 _ hj).1; obtain ⟨_, cs', h2⟩ := HW1.out.own.blk5 _ e; have := box_lt h2; omega))
       obtain ⟨ab', e, hA⟩ := this.addr
       cases e
       have := hA.rdTake N
       rw [H2.out.2.1] at this
       exact this
     have hcv : (convert 29 9 (.slice ab N yb.length)).run Tryz.prog w4 = .ok (.string (qkey ss)) w4 := conv_rd _ _ _ _ _ HO4.out HNN.out.2
     have HB4 : Hid (B <= w4.heap.size) := (Nat.le_trans HV3.out.2.2.1 H4.out.2.1.below.size : B <= w4.heap.size)
     have KK := Lib.hid (keep_anyx B g (tx ++ qshort pl ss) pl ss ob T (qown pl ss) w4 H4.out.1 HK.out (by omega) HOW.out.1 (qown_le pl ss) HOW.out.2 hpl HB4.out)
     generalize qkey ss = s at *
     go_wp2_with fail
     refine KK.out.mono ?_
     rintro e w5 ⟨rfl, H5⟩
     go_wp2
     go_ret
     rw [HSP.out]
     exact ⟨rfl, H5.out.1, (HV3.out.2.1.trans H4.out.2.1).trans H5.out.2.1, (HX3.out.trans HX4.out).trans H5.out.2.2⟩
 | false =>
   have HSP : Hid (wnm tx pl ss false = if 65535 < T + (qshort [] ss).length then (3, tx, pl) else (0, tx ++ qshort [] ss, qkeep pl T (qown [] ss) ss)) := (show _ = _ by unfold wnm; rw [if_pos HK.out, HT.out]; rfl)
   have HOW : Hid (N <= 255 /\ ∀ k, k < ss.length -> (k < qown [] ss ↔ offs ss k < N)) := ⟨hN255, fun k hk => by rw [qown_nil, <- HNN.out.1]; have := offs_le ss k; omega⟩
   go_enter Tryz.func106, Tryz.ntmps106
   go_wp2_with fail
   refine KM.out.mono ?_
   rintro e w1 ⟨rfl, rfl⟩
   go_wp2_with fail
   refine KB.out.mono ?_
   rintro e w2 ⟨vb, yb, rfl, H2⟩
   obtain ⟨ab, rfl, hAb⟩ := H2.out.1.addr
   have hnil := hAb.nil
   have hg2 : g < w2.heap.size := Nat.lt_of_lt_of_le hg H2.out.2.2.1.size
   have d1 : w2.cell? ⟨g, 1, none⟩ = some (.slice aot T TC) := cell_below H2.out.2.2.1 hg c1
   have HRs : Hid (Rd w2 ab (qshort [] ss) /\ (qshort [] ss).length = N /\ (ab = none -> yb.length = 0)) := by
     have := hAb.rdTake N
     rw [H2.out.2.1] at this
     rw [qshort_nil]
     exact ⟨this, HNN.out.2, hnil⟩
   have HV3 : Hid (Wr1 B w2 g tx pl (.slice aot T TC) ys mb /\ Fr B w1 w2 /\ B <= w2.heap.size /\ Own w1.heap.size w2 (.slice ab N yb.length) N yb) :=
     ⟨HW1.out.below H2.out.2.2.1, Fr.of H2.out.2.2.1 hB, Nat.le_trans hB H2.out.2.2.1.size, H2.out.1⟩
   have HX3 : Hid (Fx g w1 w2) := Fx.of H2.out.2.2.1 hg
   clear KB hnil hAb
   have KW := Lib.hid (wbytes1x B g tx pl (.slice aot T TC) ys mb ab N yb.length (qshort [] ss) w2 HV3.out.1 HV3.out.2.2.1 (by rw [HT.out]; exact ht) HRs.out.1 HRs.out.2.1 HRs.out.2.2 (by omega))
   simp only [HT.out] at KW
   rw [HRs.out.2.1] at HSP
   by_cases hbig : 65535 < T + N
   · rw [if_pos hbig, if_pos hbig] at KW
     rw [if_pos hbig] at HSP
     go_wp2_with fail
     refine KW.out.mono ?_
     rintro e w4 ⟨rfl, H4, HX4⟩
     go_wp2
     go_ret
     rw [HSP.out]
     exact ⟨rfl, H4.out.1, HV3.out.2.1.trans H4.out.2.1, HX3.out.trans HX4.out⟩
   · rw [if_neg hbig, if_neg hbig] at KW
     rw [if_neg hbig] at HSP
     go_wp2_with fail
     refine KW.out.mono ?_
     rintro e w4 ⟨rfl, H4, HX4⟩
     have HO4 : Hid (Rd w4 ab (nby ss ++ [0])) := by
       have := HV3.out.2.2.2.keepAt (w' := w4) (fun j hj hl => H4.out.2.2 j hl (fun e => by subst e; have := (HV3.out.2.2.2.blk5 _ hj).1; omega) (fun e => by have h1 := (HV3.out.2.2.2.blk5 _ hj).1; obtain ⟨_, cs', h2⟩ := HW1.out.own.blk5 _ e; have := box_lt h2; omega))
       obtain ⟨ab', e, hA⟩ := this.addr
       cases e
       have := hA.rdTake N
       rw [H2.out.2.1] at this
       exact this
     have hcv : (convert 29 9 (.slice ab N yb.length)).run Tryz.prog w4 = .ok (.string (qkey ss)) w4 := conv_rd _ _ _ _ _ HO4.out HNN.out.2
     have HB4 : Hid (B <= w4.heap.size) := (Nat.le_trans HV3.out.2.2.1 H4.out.2.1.below.size : B <= w4.heap.size)
     have KK := Lib.hid (keep_anyx B g (tx ++ qshort [] ss) pl ss N T (qown [] ss) w4 H4.out.1 HK.out (by omega) HOW.out.1 (qown_le [] ss) HOW.out.2 hpl HB4.out)
     generalize qkey ss = s at *
     go_wp2_with fail
     refine KK.out.mono ?_
     rintro e w5 ⟨rfl, H5⟩
     go_wp2
     go_ret
     rw [HSP.out]
     exact ⟨rfl, H5.out.1, (HV3.out.2.1.trans H4.out.2.1).trans H5.out.2.1, (HX3.out.trans HX4.out).trans H5.out.2.2⟩
theorem wname_anyx (B g : Nat) (tx : List Int) (pl : List (ByteArray × Nat)) (a : Option Addr) (n c : Nat) (ss : List ByteArray) (back : Bool) (w : World) (h : Wr B w g tx pl) (hN : Arg w a n ss) (hn : n <= 8796093021952) (hB : B <= w.heap.size) (ht : tx.length <= 65535) (hP : ∀ k p, (k, p) ∈ pl -> p < 16384) (hpl : pl.length <= 100000) :
   Calls Tryz.prog 106 #[.pointer (some ⟨g, 0, none⟩), .slice a n c, .bool back] w (NmPostx B g (wnm tx pl ss back) w) := by
 by_cases hk : nck ss = 0
 · exact wname_yesx B g tx pl a n c ss back w h hN hk hB ht hP hpl
 · have e : wnm tx pl ss back = (nck ss, tx, pl) := by unfold wnm; rw [if_neg hk]
   rw [e]
   exact wname_nox B g tx pl a n c ss back w h hN hn hk
end Go.Proofs.YtkjnbgekaifdfaaGreat
namespace Go.Proofs.YtkjnbgekaifdfaaGreat
open Go.ChangeShapes Go.WideShapes Go.ChangeAt Go.RowKit Go.Maps
set_option maxHeartbeats 1000000 in
theorem wset_yes (B g : Nat) (tx : List Int) (pl : List (ByteArray × Nat)) (T at_ n : Nat) (w : World) (h : Wr B w g tx pl) (hT : tx.length = T) (ht : T <= 65535) (hn : n <= 65535) (ha : at_ + 2 <= T) (hB : B <= w.heap.size) :
   Calls Tryz.prog 110 #[.pointer (some ⟨g, 0, none⟩), .int .i64 at_, .int .i64 n] w fun e w' => e = .returned (.int .i64 0) /\ Hid (Wr B w' g (tx.take at_ ++ numB n 2 ++ tx.drop (at_ + 2)) pl /\ Fr B w w' /\ Fx g w w') := by
 obtain ⟨v, ys, mb, h⟩ := h
 have hg := box_lt h.box
 have c0 : w.cell? ⟨g, 0, none⟩ = some (.pointer (some ⟨g, 0, none⟩)) := box_cell h.box 0 _ rfl
 have c1 : w.cell? ⟨g, 1, none⟩ = some v := box_cell h.box 1 _ rfl
 have HW : Hid (Wr1 B w g tx pl v ys mb) := h
 have hown := h.own
 rw [hT] at hown
 rcases hown with ⟨_, h0, _⟩ | ⟨gb, rfl, hBg, hblk, hTn, hmx⟩
 · omega
 have HBK : Hid (Blk w gb ys /\ B <= gb /\ gb < w.heap.size) := ⟨hblk, hBg, hblk.lt⟩
 generalize hTC : ys.length = TC at *
 have KM := Lib.hid (made_yes g w c0 hg)
 have KP : Hid (Calls Tryz.prog 70 #[.int .i64 n] w fun e w' => e = .returned (.tuple #[.slice (some ⟨w.heap.size, 0, none⟩) 2 2, .int .i64 0]) /\ w' = w.alloc (.cells #[.int .u8 ((n : Int) / 256), .int .u8 ((n : Int) % 256)] 5)) := put16_yes n w (by omega) (by omega)
 have hmx2 : TC <= 9223372036854775807 := by simp only [maxLen] at hmx; omega
 clear h hblk
 have k1 : (at_ : Int) <= (T : Int) - 2 := by omega
 go_enter Tryz.func110, Tryz.ntmps110
 go_wp2_with fail
 refine KM.out.mono ?_
 rintro e w1 ⟨rfl, rfl⟩
 go_wp2_with fail
 refine KP.out.mono ?_
 rintro e w2 ⟨rfl, hw2⟩
 have hb2 : Below w1.heap.size w1 w2 := by rw [hw2]; exact newq_below _ _
 have d1 : w2.cell? ⟨g, 1, none⟩ = some (.slice (some ⟨gb, 0, none⟩) T TC) := cell_below hb2 hg c1
 have hg2 : g < w2.heap.size := Nat.lt_of_lt_of_le hg hb2.size
 have HB2 := Lib.hid hb2
 have HW2 := Lib.hid hw2
 clear hw2 hb2
 have hS : w2.heap[w1.heap.size]? = some (.cells #[.int .u8 ((n : Int) / 256), .int .u8 ((n : Int) % 256)] 5) := by rw [HW2.out]; exact heap_alloc_new _ _
 have hG : w2.heap[gb]? = some (.cells (ys.map (Value.int .u8)).toArray 5 (0, 0)) := (HB2.out.block gb HBK.out.2.2).trans HBK.out.1.1
 have hcp := run_copy_row (P := Tryz.prog) w2 29 29 3 5 gb at_ (T - at_) (TC - at_) ⟨w1.heap.size, 0, none⟩ 2 2 _ 5 [.int .u8 ((n : Int) / 256), .int .u8 ((n : Int) % 256)] Tryz.underlying29 (by kernel_rfl) hG (show 2 = Nat.min 2 (T - at_) from (Nat.min_eq_left (by omega)).symm)
   (by
     intro j u hj
     match j, hj with
     | 0, hj => simp at hj; subst hj; simpa [Addr.add] using box_cell hS 0 _ rfl
     | 1, hj => simp at hj; subst hj; simpa [Addr.add] using box_cell hS 1 _ rfl
     | j + 2, hj => simp at hj) (by simp; omega) (by intro u hu; simp at hu; rcases hu with rfl | rfl <;> rfl)
 have e1 : ((ys.map (Value.int .u8)).toArray.toList.take at_ ++ [Value.int .u8 ((n : Int) / 256), .int .u8 ((n : Int) % 256)] ++ (ys.map (Value.int .u8)).toArray.toList.drop (at_ + [Value.int .u8 ((n : Int) / 256), .int .u8 ((n : Int) % 256)].length)).toArray = ((ys.take at_ ++ numB n 2 ++ ys.drop (at_ + 2)).map (Value.int .u8)).toArray := by
   simp [numB]
 rw [e1] at hcp
 clear e1
 have hcp : (Builtin.copy_ #[29, 29] 3 #[.slice (some ⟨gb, at_, none⟩) (T - at_) (TC - at_), .slice (some ⟨w1.heap.size, 0, none⟩) 2 2]).run Tryz.prog w2 = .ok (.int .i64 2) (w2.setRow gb ((ys.take at_ ++ numB n 2 ++ ys.drop (at_ + 2)).map (Value.int .u8)).toArray) := by
   rw [hcp]; simp [goInt]
 have hnl : (numB n 2).length = 2 := numB_len n 2 (by omega)
 have hlen : (ys.take at_ ++ numB n 2 ++ ys.drop (at_ + 2)).length = TC := by simp only [List.length_append, List.length_take, List.length_drop, hnl]; omega
 have hne : gb ≠ g := by
   rintro rfl
   have := HW.out.box
   rw [HBK.out.1.1] at this
   injection this with this
   injection this with _ this _
   exact absurd this (by decide)
 have HF : Hid (Wr1 B (w2.setRow gb ((ys.take at_ ++ numB n 2 ++ ys.drop (at_ + 2)).map (Value.int .u8)).toArray) g (tx.take at_ ++ numB n 2 ++ tx.drop (at_ + 2)) pl (.slice (some ⟨gb, 0, none⟩) T TC) (ys.take at_ ++ numB n 2 ++ ys.drop (at_ + 2)) mb /\ Fr B w1 (w2.setRow gb ((ys.take at_ ++ numB n 2 ++ ys.drop (at_ + 2)).map (Value.int .u8)).toArray) /\ Fx g w1 (w2.setRow gb ((ys.take at_ ++ numB n 2 ++ ys.drop (at_ + 2)).map (Value.int .u8)).toArray)) := by
   have hoth : ∀ j, j ≠ gb -> (w2.setRow gb ((ys.take at_ ++ numB n 2 ++ ys.drop (at_ + 2)).map (Value.int .u8)).toArray).heap[j]? = w2.heap[j]? := fun j hj => setRow_other w2 gb j _ hj
   have hown2 : w2.heap[gb]? = some (.cells (ys.map (Value.int .u8)).toArray 5) := hG
   have hrow := setRow_block hown2 ((ys.take at_ ++ numB n 2 ++ ys.drop (at_ + 2)).map (Value.int .u8)).toArray
   have hsz := setRow_size w2 gb ((ys.take at_ ++ numB n 2 ++ ys.drop (at_ + 2)).map (Value.int .u8)).toArray
   have hgr : w2.grownBy (w2.setRow gb ((ys.take at_ ++ numB n 2 ++ ys.drop (at_ + 2)).map (Value.int .u8)).toArray) (some gb) := ⟨rfl, rfl, rfl, by rw [hsz]; exact Nat.le_refl _, fun j _ hne => hoth j (fun e => hne (by rw [e]))⟩
   have hW2 := HW.out.below HB2.out
   generalize w2.setRow gb ((ys.take at_ ++ numB n 2 ++ ys.drop (at_ + 2)).map (Value.int .u8)).toArray = w3 at *
   have htl : (tx.take at_ ++ numB n 2 ++ tx.drop (at_ + 2)).length = T := by simp only [List.length_append, List.length_take, List.length_drop, hnl]; omega
   have htx := HW.out.txt
   rw [hT] at htx
   obtain ⟨es, cl, em⟩ := hW2.map.isMap
   have hmg : mb ≠ gb := by rintro rfl; rw [hG] at em; cases em
   refine ⟨⟨(hoth g (Ne.symm hne)).trans hW2.box, hW2.gB, hW2.mB, ?_, ?_, hW2.map.same (hoth mb hmg)⟩, ?_, ?_⟩
   · rw [htl]
     refine .inr ⟨gb, by rw [hlen], HBK.out.2.1, ⟨hrow, ?_⟩, by rw [hlen]; exact hTn, by rw [hlen]; exact hmx⟩
     intro z hz
     simp only [List.mem_append] at hz
     rcases hz with (hz | hz) | hz
     · exact HBK.out.1.2 z (List.mem_of_mem_take hz)
     · simp [numB] at hz; omega
     · exact HBK.out.1.2 z (List.mem_of_mem_drop hz)
   · rw [htl, <- htx, List.take_take, Nat.min_eq_left (by omega), List.drop_take]
     have q1 : (ys.take at_ ++ numB n 2).length = at_ + 2 := by simp only [List.length_append, List.length_take, hnl]; omega
     rw [List.take_append, q1, List.take_of_length_le (by rw [q1]; omega)]
   · refine ⟨HB2.out.mono hB |>.trans ((Below.refl B w2).grown hgr (Nat.le_trans hB HB2.out.size) (fun k e => by simp only [Option.some.injEq] at e; subst e; exact HBK.out.2.1)), ?_⟩
     intro j cs t fr hj h5 _
     have e1 := HB2.out.block j (box_lt hj)
     refine (hoth j ?_).trans e1
     rintro rfl
     rw [HBK.out.1.1] at hj
     cases hj
     exact h5 rfl
   · refine ⟨Nat.le_trans HB2.out.size (by rw [hsz]; exact Nat.le_refl _), fun j cs fr hj hn => ?_, .inl (tbk_same ((hoth g (Ne.symm hne)).trans (HB2.out.block g hg)))⟩
     rw [tbk_box HW.out.box] at hn
     refine (hoth j ?_).trans (HB2.out.block j (box_lt hj))
     rintro rfl
     exact hn rfl
 generalize w2.setRow gb ((ys.take at_ ++ numB n 2 ++ ys.drop (at_ + 2)).map (Value.int .u8)).toArray = w3 at *
 clear hS hG hlen
 go_wp2
 go_ret
 exact ⟨rfl, ⟨_, _, _, HF.out.1⟩, HF.out.2⟩
end Go.Proofs.YtkjnbgekaifdfaaGreat
namespace Go.Proofs.YtkjnbgekaifdfaaGreat
open Go.ChangeShapes Go.WideShapes Go.ChangeAt Go.RowKit
def RdN (n : Nat) (w : World) (a : Option Addr) (L : List Int) : Prop := Rd w a L /\ ∀ b o sp, a = some ⟨b, o, sp⟩ -> n <= b /\ ∃ cs, w.heap[b]? = some (.cells cs 5 (0, 0))
theorem RdN.mono {n m : Nat} {w : World} {a : Option Addr} {L : List Int} (h : RdN n w a L) (hm : m <= n) : RdN m w a L := ⟨h.1, fun b o sp e => ⟨Nat.le_trans hm (h.2 b o sp e).1, (h.2 b o sp e).2⟩⟩
theorem own_from {B : Nat} {w : World} {a : Option Addr} {m c : Nat} {n : Nat} {ys : List Int} (h : Own B w (.slice a m c) n ys) {b o : Nat} {sp} (e : a = some ⟨b, o, sp⟩) : B <= b /\ ∃ cs, w.heap[b]? = some (.cells cs 5 (0, 0)) := by
 rcases h with ⟨h, _⟩ | ⟨g, h, hB, hk, _⟩
 · cases h; cases e
 · cases h; cases e; exact ⟨hB, _, hk.1⟩
def WPostx (L : List Int) (w : World) (e : Ending) (w' : World) : Prop := ∃ (s : Sl), e = .returned (.slice s.a s.n s.c) /\ Hid (s.n = L.length /\ RdN w.heap.size w' s.a L /\ s.n <= s.c /\ s.c <= 9223372036854775807 /\ (s.a = none -> s.c = 0) /\ Below w.heap.size w w')
theorem Gr.postx {w W3 w' : World} {v : Value} {m : Nat} {L : List Int} (h : Gr W3 w' v m L) (hb : Below w.heap.size w W3) : WPostx L w (.returned v) w' := by
 obtain ⟨ys, h1, h2, h3, h4⟩ := h
 obtain ⟨ao, rfl, hoa⟩ := h1.addr
 have hrd := hoa.rdTake m
 rw [h2] at hrd
 have hle := hoa.le
 refine ⟨⟨ao, m, ys.length⟩, rfl, h3.symm, ⟨hrd, fun b o sp e => ⟨Nat.le_trans hb.size (own_from h1 e).1, (own_from h1 e).2⟩⟩, hle.1, by have := hle.2; simp only [maxLen] at this; exact this, fun e => hoa.nil e, hb.trans (h4.mono hb.size)⟩
set_option maxHeartbeats 4000000 in
theorem write_yesx (t : Nat) (x : DA) (d : Dat) (w : World) (h : DRd w x d) (hck : checkF t d = 0) (hB : Bd d) :
   Calls Tryz.prog 125 #[.agg #[.int .i64 (fs t).nn, .int .i64 (fs t).nf, .int .i64 (fs t).nu, .int .i64 (fs t).wd, .int .i64 (fs t).nt, .int .i64 (fs t).tg, .int .i64 (fs t).tl, .int .i64 (fs t).nr], .agg #[.slice x.p1.a x.p1.n x.p1.c, .slice x.p2.a x.p2.n x.p2.c, .slice x.p3.a x.p3.n x.p3.c, .slice x.p4.a x.p4.n x.p4.c]] w (WPostx (writeF t d) w) := by
 have H : Hid (PtSt w ((w.alloc (.cells #[.int .i64 (fs t).nn, .int .i64 (fs t).nf, .int .i64 (fs t).nu, .int .i64 (fs t).wd, .int .i64 (fs t).nt, .int .i64 (fs t).tg, .int .i64 (fs t).tl, .int .i64 (fs t).nr] 150)).alloc (.cells #[.slice x.p1.a x.p1.n x.p1.c, .slice x.p2.a x.p2.n x.p2.c, .slice x.p3.a x.p3.n x.p3.c, .slice x.p4.a x.p4.n x.p4.c] 60)) w.heap.size (fs t) x d) := PtSt.new w (fs t) x d h
 obtain ⟨hm, hf, hnk, hsz⟩ := check_parts hck
 have hwr := wrt_of hck
 obtain ⟨hq1, hq2, hq3, hq4, hq5, hq6⟩ := wr_eq t d hf
 have HW : Hid (∀ W, DRd W x d -> Calls Tryz.prog 100 #[.agg #[.int .i64 (fs t).nn, .int .i64 (fs t).nf, .int .i64 (fs t).nu, .int .i64 (fs t).wd, .int .i64 (fs t).nt, .int .i64 (fs t).tg, .int .i64 (fs t).tl, .int .i64 (fs t).nr], .agg #[.slice x.p1.a x.p1.n x.p1.c, .slice x.p2.a x.p2.n x.p2.c, .slice x.p3.a x.p3.n x.p3.c, .slice x.p4.a x.p4.n x.p4.c]] W fun e w' => e = .returned (.int .i64 (sizesF t d : Nat)) /\ Hid (Below W.heap.size W w')) := by
   intro W hd
   rw [<- psz_eq t d hf]
   refine psize5_any (fs t) x d W hd (fs_tl t) ?_
   have h5 : nsum d <= 1000 * 255 := by
     have := sum_le (d.ns.map nsz) 255 (by
       intro y hy
       obtain ⟨n, hn, rfl⟩ := List.mem_map.1 hy
       exact (nck_small (hnk n hn)).1)
     rw [List.length_map] at this
     have h6 : d.ns.length * 255 <= 1000 * 255 := Nat.mul_le_mul_right _ hB.n
     unfold nsum
     omega
   have h7 : (fs t).wd * d.us.length <= 4 * 1000 := Nat.mul_le_mul (by have := fs_wd t; omega) hB.u
   have h8 := hB.t
   have h9 := hB.r
   omega
 have hwl : (writeF t d).length <= 65535 := by
   rw [<- hq6]
   have h1 := hwr.sz
   rw [hq1, <- hq4] at h1
   have h2 : (ptB (d.ts.length - (fs t).tl) d.ts).length = (tsB t d.ts).length := by
     have e1 := congrArg List.length hq6
     unfold writeF at e1
     by_cases h6 : t = 6
     · obtain ⟨_, e2, e3⟩ := hwr.soa h6
       rw [e2]; simp [ptB, tsB, nby]
     · rw [if_neg h6, hq1, hq4] at e1
       simp only [List.length_append] at e1
       omega
   simp only [List.length_append] at h1 ⊢
   omega
 have HNK : Hid (∀ n ∈ d.ns, nck n = 0) := hnk
 have HNU : Hid (∀ n ∈ d.us, n <= most (fs t).wd /\ ((fs t).wd = 1 ∨ (fs t).wd = 2 ∨ (fs t).wd = 4)) := by rw [hq4]; exact hwr.nu
 have HTX : Hid (∀ i (h : i < d.ts.length), i < d.ts.length - (fs t).tl -> d.ts[i].size <= 255) := by
   intro i hi hlt
   refine hwr.tx i hi ?_
   rcases fs_cases t with ⟨ht, e⟩ | ⟨ht, e⟩ | ⟨ht, e⟩ | ⟨ht, e⟩ | ⟨ht, e⟩ | ⟨ht, e⟩ | ⟨ht, e⟩ | ⟨ht, e⟩ | ⟨ht, e⟩
   all_goals first
     | exact .inl ht
     | (right
        obtain ⟨fns, fus, fts, ft1, fraw, fun_, ftx, ftg⟩ := (fit_iff t d).1 hf
        first
        | (rcases ht with rfl | rfl | rfl <;> (rw [e] at hlt; simp only at hlt; first | (have e2 : (shp 2).nt = 0 := rfl; omega) | (have e2 : (shp 5).nt = 0 := rfl; omega) | (have e2 : (shp 12).nt = 0 := rfl; omega)))
        | (subst ht; rw [e] at hlt; simp only at hlt; first | (have e2 : (shp 1).nt = 0 := rfl; omega) | (have e2 : (shp 28).nt = 0 := rfl; omega) | (have e2 : (shp 6).nt = 0 := rfl; omega) | (have e2 : (shp 15).nt = 0 := rfl; omega) | (have e2 : (shp 33).nt = 0 := rfl; omega) | (have e2 : (shp 257).nt = 2 := rfl; omega))
        | (obtain ⟨h1, h2, h3, h4, h5, h6, h7, h8, h9, h10⟩ := ht
           have es' : shp t = ⟨0, 0, 0, -1, 0⟩ := by unfold shp; simp [h1, h2, h3, h4, h5, h6, h7, h8, h9, h10]
           rw [es'] at fts; simp only at fts; omega))
 have HD : Hid (DRd w x d) := h
 have l1 := h.h1.len
 have l3 := h.h3.len
 have l4 := h.h4.len
 have HC1 : Hid (x.p1.n <= x.p1.c /\ x.p1.c <= 9223372036854775807 /\ (x.p1.a = none -> x.p1.c = 0)) := ⟨h.h1.cap.1, h.h1.cap.2, h.h1.nil⟩
 clear h hck hwr hm hnk hq1 hf hB hq4
 obtain ⟨R, hR⟩ : ∃ R, writeF t d = R := ⟨_, rfl⟩
 rw [hR] at hq6 hwl ⊢
 generalize hszz : sizesF t d = Z at *
 clear hszz hR
 generalize (fs t) = f at *
 obtain ⟨nn, nf, nu, wd, nt, tg, tl, nr⟩ := f
 obtain ⟨⟨a1, n1, k1⟩, ⟨a2, n2, k2⟩, ⟨a3, n3, k3⟩, ⟨a4, n4, k4⟩⟩ := x
 simp only at H HW HNU HTX l1 l3 l4 hq2 hq3 hq5 hq6 HC1 ⊢
 rw [l1] at hq2 hq3
 rw [l3] at hq5
 have HQ6 : Hid ((d.ns.take nf).flatMap nmB ++ d.us.flatMap (fun n => numB n wd) ++ (d.ns.drop nf).flatMap nmB ++ ptB (n3 - tl) d.ts ++ d.raw = R) := by rw [l3] at hq6; exact hq6
 have HLL : Hid (d.ns.length = n1 /\ d.ts.length = n3 /\ d.raw.length = n4) := ⟨l1, l3, l4⟩
 have HTX2 : Hid (∀ i (h : i < d.ts.length), i < n3 - tl -> d.ts[i].size <= 255) := fun i hi hlt => HTX.out i hi (by rw [l3]; exact hlt)
 have hR6 : R.length <= 65535 := hwl
 have hcap := HC1.out
 clear l1 l3 l4 hq6 HTX hwl HC1
 have HRL : Hid (((d.ns.take nf).flatMap nmB).length + (d.us.flatMap (fun n => numB n wd)).length + ((d.ns.drop nf).flatMap nmB).length + (ptB (n3 - tl) d.ts).length + n4 = R.length) := by
   have := congrArg List.length HQ6.out
   simp only [List.length_append] at this
   rw [HLL.out.2.2] at this
   exact this
 go_enter Tryz.func125, Tryz.ntmps125
 go_upto_region 1 with fail
 generalize ((w.alloc (.cells #[.int .i64 nn, .int .i64 nf, .int .i64 nu, .int .i64 wd, .int .i64 nt, .int .i64 tg, .int .i64 tl, .int .i64 nr] 150)).alloc (.cells #[.slice a1 n1 k1, .slice a2 n2 k2, .slice a3 n3 k3, .slice a4 n4 k4] 60)) = W1 at *
 obtain ⟨b, hb⟩ : ∃ b, b = w.heap.size := ⟨_, rfl⟩
 rw [<- hb] at H ⊢
 have Hb : Hid (b = w.heap.size) := hb
 clear hb
 obtain ⟨s0, s1, s2, s3, s4, s5, s6, s7, _⟩ := H.out.1
 have c0 := H.out.2.1.1
 have c1 := H.out.2.1.2.1
 have c2 := H.out.2.1.2.2.1
 have c3 := H.out.2.1.2.2.2.1
 simp only at s0 s1 s2 s3 s4 s5 s6 s7 c0 c1 c2 c3
 go_wp2_with fail
 refine (HW.out _ H.out.2.2.1).mono ?_
 rintro e W2 ⟨rfl, H2⟩
 have H3 : Hid (PtSt w W2 b ⟨nn, nf, nu, wd, nt, tg, tl, nr⟩ ⟨⟨a1, n1, k1⟩, ⟨a2, n2, k2⟩, ⟨a3, n3, k3⟩, ⟨a4, n4, k4⟩⟩ d) := H.out.go H2.out
 clear H H2 HW s0 s1 s2 s3 s4 s5 s6 s7 c0 c1 c2 c3
 go_upto_region 2 with (at_make; refine wpList_make_blk _ rfl _ _ rfl 0 Z _ _ rfl rfl rfl rfl (by omega) (by omega) ?_)
 have HG0 : Hid (Gr W2 (W2.alloc (.cells (Array.replicate Z (Value.int .u8 0)) 5)) (.slice (some ⟨W2.heap.size, 0, none⟩) 0 Z) 0 []) := by
   refine ⟨List.replicate Z 0, .inr ⟨W2.heap.size, by simp, Nat.le_refl _, ⟨(heap_alloc_new _ _).trans (by simp), ?_⟩, by simp, by unfold maxLen; simp; omega⟩, by simp, rfl, (Below.refl _ _).alloc (Nat.le_refl _) _⟩
   intro z hz
   rw [List.eq_of_mem_replicate hz]
   omega
 have HF : Hid (∀ W, Below W2.heap.size W2 W -> PtSt w W b ⟨nn, nf, nu, wd, nt, tg, tl, nr⟩ ⟨⟨a1, n1, k1⟩, ⟨a2, n2, k2⟩, ⟨a3, n3, k3⟩, ⟨a4, n4, k4⟩⟩ d) := fun W hW => H3.out.go hW
 clear H3
 generalize W2.alloc (.cells (Array.replicate Z (Value.int .u8 0)) 5) = Wa at *
 generalize (some ⟨W2.heap.size, 0, none⟩ : Option Addr) = av at *
 have s1 := (HF.out Wa HG0.out.bel).1.2.1
 have c0 := (HF.out Wa HG0.out.bel).2.1.1
 simp only at s1 c0
 have KN : Hid (∀ (v : Value) (W : World) (m T : Nat) (L R' : List Int), Gr W2 W v m L -> m + ((d.ns.take nf).flatMap nmB).length = T -> L ++ (d.ns.take nf).flatMap nmB = R' -> T <= 65535 -> Calls Tryz.prog 135 #[v, .slice a1 nf k1] W fun e w' => ∃ v', e = .returned v' /\ Hid (Gr W2 w' v' T R')) := by
   intro v W m T L R' hg hT hR' hb
   have := ((HF.out W2 (Below.refl _ _)).2.2.1.h1).front nf hq2
   exact putnames_any W2 W v m L ⟨a1, nf, k1⟩ (d.ns.take nf) hg this (fun n hn => HNK.out n (List.mem_of_mem_take hn)) T R' hT hR' hb
 obtain ⟨A1, hA1⟩ : ∃ A, ((d.ns.take nf).flatMap nmB) = A := ⟨_, rfl⟩
 obtain ⟨A2, hA2⟩ : ∃ A, (d.us.flatMap (fun n => numB n wd)) = A := ⟨_, rfl⟩
 obtain ⟨A3, hA3⟩ : ∃ A, ((d.ns.drop nf).flatMap nmB) = A := ⟨_, rfl⟩
 obtain ⟨A4, hA4⟩ : ∃ A, ptB (n3 - tl) d.ts = A := ⟨_, rfl⟩
 have KU : Hid (∀ (v : Value) (W : World) (m : Nat) (L : List Int), Gr W2 W v m L -> m + A2.length <= 65535 -> Calls Tryz.prog 136 #[v, .slice a2 n2 k2, .int .i64 wd] W fun e w' => ∃ v', e = .returned v' /\ Hid (Gr W2 w' v' (m + A2.length) (L ++ A2))) := by
   intro v W m L hg hb
   subst hA2
   exact putnums_any W2 W v m L ⟨a2, n2, k2⟩ d.us wd hg (HF.out W2 (Below.refl _ _)).2.2.1.h2 HNU.out _ _ rfl rfl hb
 have KT : Hid (∀ (v : Value) (W : World) (m : Nat) (L : List Int), Gr W2 W v m L -> m + A4.length <= 65535 -> Calls Tryz.prog 137 #[v, .slice a3 n3 k3, .int .i64 tl] W fun e w' => ∃ v', e = .returned v' /\ Hid (Gr W2 w' v' (m + A4.length) (L ++ A4))) := by
   intro v W m L hg hb
   subst hA4
   exact puttexts_any W2 W v m L ⟨a3, n3, k3⟩ d.ts tl (n3 - tl) hg (HF.out W2 (Below.refl _ _)).2.2.1.h3 hq5 rfl HTX2.out _ _ rfl rfl hb
 have KN2 : Hid (∀ (v : Value) (W : World) (m : Nat) (L : List Int), Gr W2 W v m L -> m + A1.length <= 65535 -> Calls Tryz.prog 135 #[v, .slice a1 nf k1] W fun e w' => ∃ v', e = .returned v' /\ Hid (Gr W2 w' v' (m + A1.length) (L ++ A1))) := by
   intro v W m L hg hb
   exact KN.out v W m (m + A1.length) L (L ++ A1) hg (by rw [hA1]) (by rw [hA1]) hb
 have KB : Hid (∀ (s : Sl) (v : Value) (W : World) (m : Nat) (L : List Int), NRd W2 s (d.ns.drop nf) -> Gr W2 W v m L -> m + A3.length <= 65535 -> Calls Tryz.prog 135 #[v, .slice s.a s.n s.c] W fun e w' => ∃ v', e = .returned v' /\ Hid (Gr W2 w' v' (m + A3.length) (L ++ A3))) := by
   intro s v W m L hs hg hb
   subst hA3
   exact putnames_any W2 W v m L s (d.ns.drop nf) hg hs (fun n hn => HNK.out n (List.mem_of_mem_drop hn)) _ _ rfl rfl hb
 have hr := HRL.out
 have h6 := HQ6.out
 rw [hA1, hA2, hA3, hA4] at hr h6
 have HR : Hid (A1.length + A2.length + A3.length + A4.length + n4 = R.length /\ A1 ++ A2 ++ A3 ++ A4 ++ d.raw = R) := ⟨hr, h6⟩
 have hb1 : 0 + A1.length <= 65535 := by omega
 have hb2 : 0 + A1.length + A2.length <= 65535 := by omega
 have hb3 : 0 + A1.length + A2.length + A3.length <= 65535 := by omega
 have hb4 : 0 + A1.length + A2.length + A3.length + A4.length <= 65535 := by omega
 have hb5 : 0 + A1.length + A2.length + A3.length + A4.length + n4 <= 65535 := by omega
 clear hr h6 hA1 hA2 hA3 hA4 KN HRL HQ6 HNK HNU HTX2
 obtain ⟨q1, hq1⟩ : ∃ q, 0 + A1.length = q := ⟨_, rfl⟩
 obtain ⟨q2, hq2'⟩ : ∃ q, q1 + A2.length = q := ⟨_, rfl⟩
 obtain ⟨q3, hq3'⟩ : ∃ q, q2 + A3.length = q := ⟨_, rfl⟩
 obtain ⟨q4, hq4'⟩ : ∃ q, q3 + A4.length = q := ⟨_, rfl⟩
 have HQQ : Hid (0 + A1.length = q1 /\ q1 + A2.length = q2 /\ q2 + A3.length = q3 /\ q3 + A4.length = q4 /\ q4 + n4 = R.length) := ⟨hq1, hq2', hq3', hq4', by have := HR.out.1; omega⟩
 have K1 : Hid (Calls Tryz.prog 135 #[.slice av 0 Z, .slice a1 nf k1] Wa fun e w' => ∃ v', e = .returned v' /\ Hid (Gr W2 w' v' q1 ([] ++ A1))) := by
   have := KN2.out (.slice av 0 Z) Wa 0 [] HG0.out hb1
   rw [hq1] at this
   exact this
 have HC4 : Hid (q4 + n4 <= 65535) := by show _ <= _; omega
 clear hb1 hb2 hb3 hb4 hb5 hq1 hq2' hq3' hq4' KN2 hR6
 have hnf63 : nf <= 9223372036854775807 := by omega
 go_wp2_with fail
 refine K1.out.mono ?_
 rintro e W3 ⟨v1, rfl, HG1⟩
 clear K1 HG0 s1 c0
 have s3 := (HF.out W3 HG1.out.bel).1.2.2.2.1
 have c1 := (HF.out W3 HG1.out.bel).2.1.2.1
 simp only at s3 c1
 have K2 : Hid (Calls Tryz.prog 136 #[v1, .slice a2 n2 k2, .int .i64 wd] W3 fun e w' => ∃ v', e = .returned v' /\ Hid (Gr W2 w' v' q2 ([] ++ A1 ++ A2))) := by
   have := KU.out v1 W3 q1 ([] ++ A1) HG1.out (by have := HQQ.out; have := HC4.out; omega)
   rw [HQQ.out.2.1] at this
   exact this
 clear KU
 go_wp2_with fail
 refine K2.out.mono ?_
 rintro e W4 ⟨v2, rfl, HG2⟩
 clear K2 HG1 s3 c1
 have s1 := (HF.out W4 HG2.out.bel).1.2.1
 have c0 := (HF.out W4 HG2.out.bel).2.1.1
 simp only at s1 c0
 have HND : Hid (∀ s : Sl, s.n = n1 - nf -> s.c <= 9223372036854775807 -> (s.a = none -> s.c = 0) -> (nf = 0 -> s = ⟨a1, n1, k1⟩) -> NRd W2 s (d.ns.drop nf)) := by
   intro s h1 h2 h3 h4
   have hn := (HF.out W2 (Below.refl _ _)).2.2.1.h1
   by_cases h0 : nf = 0
   · rw [h4 h0, h0]; exact hn
   · have h5 : nf = n1 := hq3.resolve_left h0
     obtain ⟨sa, sn, sc⟩ := s
     simp only at h1 h2 h3
     have h6 : sn = 0 := by omega
     subst h6
     rw [List.drop_eq_nil_of_le (by rw [HLL.out.1]; omega)]
     exact NRd.none_ W2 sa sc h2 h3
 have K3 : Hid (∀ s : Sl, s.n = n1 - nf -> s.c <= 9223372036854775807 -> (s.a = none -> s.c = 0) -> (nf = 0 -> s = ⟨a1, n1, k1⟩) -> Calls Tryz.prog 135 #[v2, .slice s.a s.n s.c] W4 fun e w' => ∃ v', e = .returned v' /\ Hid (Gr W2 w' v' q3 ([] ++ A1 ++ A2 ++ A3))) := by
   intro s h1 h2 h3 h4
   have := KB.out s v2 W4 q2 ([] ++ A1 ++ A2) (HND.out s h1 h2 h3 h4) HG2.out (by have := HQQ.out; have := HC4.out; omega)
   rw [HQQ.out.2.2.1] at this
   exact this
 clear KB HND
 have K4 : Hid (∀ v W, Gr W2 W v q3 ([] ++ A1 ++ A2 ++ A3) -> Calls Tryz.prog 137 #[v, .slice a3 n3 k3, .int .i64 tl] W fun e w' => ∃ v', e = .returned v' /\ Hid (Gr W2 w' v' q4 ([] ++ A1 ++ A2 ++ A3 ++ A4))) := by
   intro v W hg
   have := KT.out v W q3 ([] ++ A1 ++ A2 ++ A3) hg (by have := HQQ.out; have := HC4.out; omega)
   rw [HQQ.out.2.2.2.1] at this
   exact this
 clear KT
 have HEND : Hid (∀ v W, Gr W2 W v (q4 + n4) ([] ++ A1 ++ A2 ++ A3 ++ A4 ++ d.raw) -> WPostx R w (.returned v) W) := by
   intro v W hg
   rw [List.nil_append, HR.out.2] at hg
   have hbw : Below w.heap.size w W2 := by
     have := (HF.out W2 (Below.refl _ _)).2.2.2
     exact this
   exact hg.postx hbw
 have hn4 := HC4.out
 go_wp2_with fail
 · refine (K3.out ⟨a1, n1 - nf, 0⟩ rfl (Nat.zero_le _) (fun _ => rfl) (fun e => ?_)).mono ?_
   · have h1 := hcap.1
     subst e
     simp
     omega
   rintro e W5 ⟨v3, rfl, HG3⟩
   clear K3 s1 c0
   have s6 := (HF.out W5 HG3.out.bel).1.2.2.2.2.2.2.1
   have c2 := (HF.out W5 HG3.out.bel).2.1.2.2.1
   simp only at s6 c2
   go_wp2_with fail
   refine (K4.out _ _ HG3.out).mono ?_
   rintro e W6 ⟨v4, rfl, HG4⟩
   have c3 := (HF.out W6 HG4.out.bel).2.1.2.2.2.1
   have hraw := (HF.out W6 HG4.out.bel).2.2.1.h4
   have HRW : Hid (Rd W6 a4 d.raw /\ (a4 = none -> k4 = 0)) := ⟨hraw.rd, hraw.nil⟩
   simp only at c3
   clear hraw s6 c2 K4 HG3
   go_wp2_with (at_builtin; refine wp_gr W2 _ rfl _ _ rfl v4 q4 ([] ++ A1 ++ A2 ++ A3 ++ A4) rfl HG4.out a4 n4 k4 d.raw rfl HRW.out.1 HLL.out.2.2 HRW.out.2 (by omega) ?_; intro v6 W6 HG6)
   go_ret
   exact HEND.out _ _ HG6.out
 · refine (K3.out ⟨Option.map (fun x => x.add nf) a1, n1 - nf, k1 - nf⟩ rfl (by show k1 - nf <= _; omega) (fun e => ?_) (fun e => ?_)).mono ?_
   · simp only [Option.map_eq_none_iff] at e
     have := hcap.2.2 e
     show k1 - nf = 0
     omega
   · subst e
     cases a1 <;> simp [Addr.add]
   rintro e W5 ⟨v3, rfl, HG3⟩
   clear K3 s1 c0
   have s6 := (HF.out W5 HG3.out.bel).1.2.2.2.2.2.2.1
   have c2 := (HF.out W5 HG3.out.bel).2.1.2.2.1
   simp only at s6 c2
   go_wp2_with fail
   refine (K4.out _ _ HG3.out).mono ?_
   rintro e W6 ⟨v4, rfl, HG4⟩
   have c3 := (HF.out W6 HG4.out.bel).2.1.2.2.2.1
   have hraw := (HF.out W6 HG4.out.bel).2.2.1.h4
   have HRW : Hid (Rd W6 a4 d.raw /\ (a4 = none -> k4 = 0)) := ⟨hraw.rd, hraw.nil⟩
   simp only at c3
   clear hraw s6 c2 K4 HG3
   go_wp2_with (at_builtin; refine wp_gr W2 _ rfl _ _ rfl v4 q4 ([] ++ A1 ++ A2 ++ A3 ++ A4) rfl HG4.out a4 n4 k4 d.raw rfl HRW.out.1 HLL.out.2.2 HRW.out.2 (by omega) ?_; intro v6 W6 HG6)
   go_ret
   exact HEND.out _ _ HG6.out
set_option maxHeartbeats 4000000 in
theorem bytes5_x (t : Nat) (x : DA) (d : Dat) (w : World) (h : DRd w x d) (hB : Bd d) :
   Calls Tryz.prog 107 #[.int .u16 t, .agg #[.slice x.p1.a x.p1.n x.p1.c, .slice x.p2.a x.p2.n x.p2.c, .slice x.p3.a x.p3.n x.p3.c, .slice x.p4.a x.p4.n x.p4.c]] w (fun e w' => ∃ (s : Sl), e = .returned (.tuple #[.slice s.a s.n s.c, .int .i64 (checkF t d)]) /\ Hid (s.n <= s.c /\ s.c <= 9223372036854775807 /\ (s.a = none -> s.c = 0) /\ (checkF t d = 0 -> s.n = (writeF t d).length /\ RdN w.heap.size w' s.a (writeF t d)) /\ (checkF t d ≠ 0 -> s = ⟨none, 0, 0⟩) /\ Below w.heap.size w w')) := by
 have hb0 : Below w.heap.size w (w.alloc (.cells #[.slice x.p1.a x.p1.n x.p1.c, .slice x.p2.a x.p2.n x.p2.c, .slice x.p3.a x.p3.n x.p3.c, .slice x.p4.a x.p4.n x.p4.c] 60)) := (Below.refl _ _).alloc (Nat.le_refl _) _
 have H : Hid (DBox (w.alloc (.cells #[.slice x.p1.a x.p1.n x.p1.c, .slice x.p2.a x.p2.n x.p2.c, .slice x.p3.a x.p3.n x.p3.c, .slice x.p4.a x.p4.n x.p4.c] 60)) w.heap.size x /\ DRd (w.alloc (.cells #[.slice x.p1.a x.p1.n x.p1.c, .slice x.p2.a x.p2.n x.p2.c, .slice x.p3.a x.p3.n x.p3.c, .slice x.p4.a x.p4.n x.p4.c] 60)) x d /\ Below w.heap.size w (w.alloc (.cells #[.slice x.p1.a x.p1.n x.p1.c, .slice x.p2.a x.p2.n x.p2.c, .slice x.p3.a x.p3.n x.p3.c, .slice x.p4.a x.p4.n x.p4.c] 60))) := ⟨DBox.new w x, h.below hb0, hb0⟩
 have KC : Hid (∀ W, DRd W x d -> Calls Tryz.prog 72 #[.int .u16 t, .agg #[.slice x.p1.a x.p1.n x.p1.c, .slice x.p2.a x.p2.n x.p2.c, .slice x.p3.a x.p3.n x.p3.c, .slice x.p4.a x.p4.n x.p4.c]] W fun e w' => e = .returned (.int .i64 (checkF t d)) /\ Hid (Below W.heap.size W w')) := fun W hd => check_any t x d W hd hB
 have KO : Hid (∀ W, Calls Tryz.prog 97 #[.int .u16 t] W fun e w' => e = .returned (.agg #[.int .i64 (fs t).nn, .int .i64 (fs t).nf, .int .i64 (fs t).nu, .int .i64 (fs t).wd, .int .i64 (fs t).nt, .int .i64 (fs t).tg, .int .i64 (fs t).tl, .int .i64 (fs t).nr]) /\ Hid (Below W.heap.size W w')) := fun W => fieldsof_any t W
 have KW : Hid (checkF t d = 0 -> ∀ W, DRd W x d -> Calls Tryz.prog 125 #[.agg #[.int .i64 (fs t).nn, .int .i64 (fs t).nf, .int .i64 (fs t).nu, .int .i64 (fs t).wd, .int .i64 (fs t).nt, .int .i64 (fs t).tg, .int .i64 (fs t).tl, .int .i64 (fs t).nr], .agg #[.slice x.p1.a x.p1.n x.p1.c, .slice x.p2.a x.p2.n x.p2.c, .slice x.p3.a x.p3.n x.p3.c, .slice x.p4.a x.p4.n x.p4.c]] W (WPostx (writeF t d) W)) := fun hc W hd => write_yesx t x d W hd hc hB
 clear h hb0 hB
 generalize writeF t d = R at *
 generalize checkF t d = C at *
 generalize (fs t) = f at *
 obtain ⟨nn, nf, nu, wd, nt, tg, tl, nr⟩ := f
 obtain ⟨⟨a1, n1, k1⟩, ⟨a2, n2, k2⟩, ⟨a3, n3, k3⟩, ⟨a4, n4, k4⟩⟩ := x
 simp only at H KC KO KW ⊢
 go_enter Tryz.func107, Tryz.ntmps107
 go_upto_region 1 with fail
 generalize (w.alloc (.cells #[.slice a1 n1 k1, .slice a2 n2 k2, .slice a3 n3 k3, .slice a4 n4 k4] 60)) = W1 at *
 obtain ⟨b, hb⟩ : ∃ b, b = w.heap.size := ⟨_, rfl⟩
 rw [<- hb] at H ⊢
 have Hb : Hid (b = w.heap.size) := hb
 clear hb
 have c0 := H.out.1.1
 have c1 := H.out.1.2.1
 have c2 := H.out.1.2.2.1
 have c3 := H.out.1.2.2.2.1
 simp only at c0 c1 c2 c3
 go_wp2_with fail
 refine (KC.out _ H.out.2.1).mono ?_
 rintro e W2 ⟨rfl, H2⟩
 have H3 : Hid (DBox W2 b ⟨⟨a1, n1, k1⟩, ⟨a2, n2, k2⟩, ⟨a3, n3, k3⟩, ⟨a4, n4, k4⟩⟩ /\ DRd W2 ⟨⟨a1, n1, k1⟩, ⟨a2, n2, k2⟩, ⟨a3, n3, k3⟩, ⟨a4, n4, k4⟩⟩ d /\ Below w.heap.size w W2) := ⟨H.out.1.below H2.out, H.out.2.1.below H2.out, by have := H.out.2.2; rw [Hb.out] at this; exact this.trans (H2.out.mono this.size)⟩
 clear H H2 KC c0 c1 c2 c3
 by_cases hC : C = 0
 · have hC' : (C != 0) = false := by simp [hC]
   have KW2 : Hid (∀ W, DRd W ⟨⟨a1, n1, k1⟩, ⟨a2, n2, k2⟩, ⟨a3, n3, k3⟩, ⟨a4, n4, k4⟩⟩ d -> Calls Tryz.prog 125 #[.agg #[.int .i64 nn, .int .i64 nf, .int .i64 nu, .int .i64 wd, .int .i64 nt, .int .i64 tg, .int .i64 tl, .int .i64 nr], .agg #[.slice a1 n1 k1, .slice a2 n2 k2, .slice a3 n3 k3, .slice a4 n4 k4]] W (WPostx R W)) := KW.out hC
   clear KW
   have HC0 : Hid (C = 0) := hC
   clear hC
   have c0 := H3.out.1.1
   have c1 := H3.out.1.2.1
   have c2 := H3.out.1.2.2.1
   have c3 := H3.out.1.2.2.2.1
   have hbl := H3.out.1.2.2.2.2
   simp only at c0 c1 c2 c3
   go_wp2_with fail
   go_region_held3 (fun W => W.cell? ⟨b, 0, none⟩ = some (.slice a1 n1 k1) /\ W.cell? ⟨b, 1, none⟩ = some (.slice a2 n2 k2) /\ W.cell? ⟨b, 2, none⟩ = some (.slice a3 n3 k3) /\ W.cell? ⟨b, 3, none⟩ = some (.slice a4 n4 k4)) (exact ⟨by go_keep, by go_keep, by go_keep, by go_keep⟩) (first
     | (go_at_call 97; refine (KO.out _).mono ?_; rintro e W5 ⟨rfl, H5⟩; have HD5 : Hid (DRd W5 ⟨⟨a1, n1, k1⟩, ⟨a2, n2, k2⟩, ⟨a3, n3, k3⟩, ⟨a4, n4, k4⟩⟩ d /\ Below w.heap.size w W5 /\ b < W5.heap.size) := ⟨(H3.out.2.1.below (Below.refl _ _).drew).below H5.out, (H3.out.2.2.trans ((Below.refl _ _).drew.mono H3.out.2.2.size)).trans (H5.out.mono H3.out.2.2.size), Nat.lt_of_lt_of_le hbl H5.out.size⟩; have e0 : W5.cell? ⟨b, 0, none⟩ = some (.slice a1 n1 k1) := (H5.out.cell (p := ⟨b, 0, none⟩) hbl).trans c0; have e1 : W5.cell? ⟨b, 1, none⟩ = some (.slice a2 n2 k2) := (H5.out.cell (p := ⟨b, 1, none⟩) hbl).trans c1; have e2 : W5.cell? ⟨b, 2, none⟩ = some (.slice a3 n3 k3) := (H5.out.cell (p := ⟨b, 2, none⟩) hbl).trans c2; have e3 : W5.cell? ⟨b, 3, none⟩ = some (.slice a4 n4 k4) := (H5.out.cell (p := ⟨b, 3, none⟩) hbl).trans c3)
     | (go_at_call 125; refine (KW2.out _ HD5.out.1).mono ?_; rintro e W6 ⟨s6, rfl, H6⟩; have HE6 : Hid (s6.n = R.length /\ RdN w.heap.size W6 s6.a R /\ s6.n <= s6.c /\ s6.c <= 9223372036854775807 /\ (s6.a = none -> s6.c = 0) /\ Below w.heap.size w W6) := ⟨H6.out.1, H6.out.2.1.mono HD5.out.2.1.size, H6.out.2.2.1, H6.out.2.2.2.1, H6.out.2.2.2.2.1, HD5.out.2.1.trans (H6.out.2.2.2.2.2.mono HD5.out.2.1.size)⟩; have f0 : W6.cell? ⟨b, 0, none⟩ = some (.slice a1 n1 k1) := (H6.out.2.2.2.2.2.cell (p := ⟨b, 0, none⟩) HD5.out.2.2).trans e0; have f1 : W6.cell? ⟨b, 1, none⟩ = some (.slice a2 n2 k2) := (H6.out.2.2.2.2.2.cell (p := ⟨b, 1, none⟩) HD5.out.2.2).trans e1; have f2 : W6.cell? ⟨b, 2, none⟩ = some (.slice a3 n3 k3) := (H6.out.2.2.2.2.2.cell (p := ⟨b, 2, none⟩) HD5.out.2.2).trans e2; have f3 : W6.cell? ⟨b, 3, none⟩ = some (.slice a4 n4 k4) := (H6.out.2.2.2.2.2.cell (p := ⟨b, 3, none⟩) HD5.out.2.2).trans e3))
   obtain ⟨g1, g2, g3, g4, g5, g6⟩ := HE6.out
   go_wp2_with fail
   go_ret2
   exact ⟨s6, by rw [HC0.out]; rfl, g3, g4, g5, fun _ => ⟨g1, g2⟩, fun e => absurd HC0.out e, g6⟩
 · have hC' : (C != 0) = true := by simp [hC]
   have HC0 : Hid (C ≠ 0) := hC
   clear KW KO hC
   go_wp2_with fail
   exact bodyPost_ret (v := .tuple #[.slice none 0 0, .int .i64 C]) (by simp [results, Tryz.results107, go_sem]) rfl ⟨⟨none, 0, 0⟩, rfl, Nat.le_refl _, Nat.zero_le _, fun _ => rfl, fun e => absurd e HC0.out, fun _ => rfl, H3.out.2.2⟩
end Go.Proofs.YtkjnbgekaifdfaaGreat
namespace Go.Proofs.YtkjnbgekaifdfaaGreat
open Go.ChangeShapes Go.WideShapes Go.ChangeAt Go.RowKit Go.Maps
structure Fm (B g : Nat) (w w' : World) : Prop where
 below : Below B w w'
 oth : ∀ (j : Nat) (cs : Array Value) (t : TypeId) (fr : Nat × Nat), w.heap[j]? = some (Obj.cells cs t fr) -> t ≠ 5 -> t ≠ 125 -> t ≠ 94 -> w'.heap[j]? = w.heap[j]?
 fx : Fx g w w'
theorem Fm.refl (B g : Nat) (w : World) : Fm B g w w := ⟨Below.refl _ _, fun _ _ _ _ _ _ _ _ => rfl, Fx.refl _ _⟩
theorem Fm.trans {B g : Nat} {a b c : World} (h : Fm B g a b) (k : Fm B g b c) : Fm B g a c :=
 ⟨h.below.trans k.below, fun j cs t fr hj h5 h6 h7 => by
   have e := h.oth j cs t fr hj h5 h6 h7
   exact (k.oth j cs t fr (e.trans hj) h5 h6 h7).trans e, h.fx.trans k.fx⟩
theorem Fm.of {B g : Nat} {w w' : World} (h : Below w.heap.size w w') (hB : B <= w.heap.size) (hg : g < w.heap.size) : Fm B g w w' :=
 ⟨h.mono hB, fun j cs t fr hj _ _ _ => h.block j (box_lt hj), Fx.of h hg⟩
theorem Fm.fr {B g : Nat} {w w' : World} (h : Fr B w w') (hx : Fx g w w') : Fm B g w w' :=
 ⟨h.below, fun j cs t fr hj h5 h6 _ => h.oth j cs t fr hj h5 h6, hx⟩
def WBx (w : World) (h g : Nat) (er : Int) : Prop := w.heap[h]? = some (.cells #[.pointer (some ⟨g, 0, none⟩), .int .i64 er] 94)
structure WOk (B : Nat) (w : World) (h g : Nat) (tx : List Int) (pl : PLs) : Prop where
 box : WBx w h g 0
 wr : Wr B w g tx pl
 len : tx.length <= 65535
 pls : ∀ k p, (k, p) ∈ pl -> p < 16384
 num : pl.length <= tx.length
structure WNo (B : Nat) (w : World) (h g : Nat) : Prop where
 box : WBx w h g 3
 wr : ∃ tx pl, Wr B w g tx pl /\ tx.length <= 65535
def WAt (B : Nat) (w : World) (h g : Nat) : WSt -> Prop
 | some s => WOk B w h g s.1 s.2
 | none => WNo B w h g
def MW (B : Nat) (w : World) (h g : Nat) (s : WSt) : Prop := B <= h /\ B <= w.heap.size /\ WAt B w h g s
theorem WBx.below {w w' : World} {h g : Nat} {er : Int} (hx : WBx w h g er) (hb : Below w.heap.size w w') : WBx w' h g er := (hb.block h (box_lt hx)).trans hx
theorem MW.below {B : Nat} {w w' : World} {h g : Nat} {s : WSt} (hm : MW B w h g s) (hb : Below w.heap.size w w') : MW B w' h g s := by
 obtain ⟨h1, h2, h3⟩ := hm
 refine ⟨h1, Nat.le_trans h2 hb.size, ?_⟩
 cases s with
 | none => obtain ⟨a, tx, pl, b, c⟩ := h3; exact ⟨a.below hb, tx, pl, b.below hb, c⟩
 | some s => exact ⟨h3.box.below hb, h3.wr.below hb, h3.len, h3.pls, h3.num⟩
theorem MW.g {B : Nat} {w : World} {h g : Nat} {s : WSt} (hm : MW B w h g s) : g < w.heap.size := by
 obtain ⟨h1, h2, h3⟩ := hm
 cases s with
 | none => obtain ⟨a, tx, pl, ⟨v, ys, mb, b⟩, c⟩ := h3; exact box_lt b.box
 | some s => obtain ⟨v, ys, mb, b⟩ := h3.wr; exact box_lt b.box
theorem MW.tb {B : Nat} {w : World} {h g : Nat} {s : WSt} (hm : MW B w h g s) : ∀ j, tbk w g = some j -> j < w.heap.size := by
 intro j hj
 obtain ⟨h1, h2, h3⟩ := hm
 have key : ∀ tx pl, Wr B w g tx pl -> j < w.heap.size := by
   rintro tx pl ⟨v, ys, mb, b⟩
   rw [tbk_box b.box] at hj
   obtain ⟨_, cs, e⟩ := b.own.blk5 j hj
   exact box_lt e
 cases s with
 | none => obtain ⟨a, tx, pl, b, c⟩ := h3; exact key _ _ b
 | some s => exact key _ _ h3.wr
theorem store_err {B : Nat} {w : World} {h g : Nat} {tx : List Int} {pl : PLs} {er0 : Int} (hb : WBx w h g er0) (hW : Wr B w g tx pl) (hB : B <= h) (er : Int) :
   WBx (w.setCell ⟨h, 1, none⟩ (.int .i64 er)) h g er /\ Wr B (w.setCell ⟨h, 1, none⟩ (.int .i64 er)) g tx pl /\ Fm B g w (w.setCell ⟨h, 1, none⟩ (.int .i64 er)) := by
 have hgr := grown_set w h 1 (.int .i64 er)
 have hne : g ≠ h := by
   rintro rfl
   obtain ⟨v, ys, mb, b⟩ := hW
   have := b.box
   rw [hb] at this
   injection this with this
   injection this with _ this _
   exact absurd this (by decide)
 refine ⟨box_set hb 1 _, hW.row hgr (fun j e => ?_), (Below.refl B w).setCell hB _, fun j cs t fr hj _ _ h7 => hgr.block j (box_lt hj) (fun e => ?_), ⟨hgr.size, fun j cs fr hj _ => hgr.block j (box_lt hj) (fun e => ?_), .inl (tbk_same (hgr.block g ?_ (fun e => ?_)))⟩⟩
 · injection e with e
   subst e
   exact ⟨_, 94, (0, 0), hb, by decide, by decide⟩
 · injection e with e
   subst e
   rw [hb] at hj
   cases hj
   exact h7 rfl
 · injection e with e
   subst e
   rw [hb] at hj
   cases hj
 · obtain ⟨v, ys, mb, b⟩ := hW; exact box_lt b.box
 · injection e with e
   exact hne e
set_option maxHeartbeats 1000000 in
theorem mw_bytes (B h g : Nat) (s : WSt) (a : Option Addr) (m c : Nat) (zs : List Int) (w : World) (hM : MW B w h g s) (hr : Rd w a zs) (hl : zs.length = m) (hc : a = none -> c = 0) (hm : m <= 140737488355328) :
   Calls Tryz.prog 53 #[.pointer (some ⟨h, 0, none⟩), .slice a m c] w fun e w' => e = .returned (.tuple #[]) /\ Hid (MW B w' h g (prun (pby zs) s) /\ Fm B g w w') := by
 have HM : Hid (MW B w h g s) := hM
 obtain ⟨hB, hB2, hM⟩ := hM
 cases s with
 | none =>
   have c1 : w.cell? ⟨h, 1, none⟩ = some (.int .i64 3) := box_cell hM.box 1 _ rfl
   have hh := box_lt hM.box
   clear hM hr
   go_enter Tryz.func53, Tryz.ntmps53
   go_wp2
   go_end0
   exact ⟨rfl, HM.out, Fm.refl _ _ _⟩
 | some s =>
   obtain ⟨tx, pl⟩ := s
   have c0 : w.cell? ⟨h, 0, none⟩ = some (.pointer (some ⟨g, 0, none⟩)) := box_cell hM.box 0 _ rfl
   have c1 : w.cell? ⟨h, 1, none⟩ = some (.int .i64 0) := box_cell hM.box 1 _ rfl
   have hh := box_lt hM.box
   obtain ⟨v, ys, mb, hw1⟩ := hM.wr
   have KW := Lib.hid (wbytes1x B g tx pl v ys mb a m c zs w hw1 hB2 hM.len hr hl hc hm)
   have HO : Hid (WOk B w h g tx pl) := hM
   have HL : Hid (zs.length = m) := hl
   clear hM hw1 hr hl
   obtain ⟨er, her⟩ : ∃ er : Int, (if 65535 < tx.length + m then (3 : Int) else 0) = er := ⟨_, rfl⟩
   rw [her] at KW
   have HER : Hid ((if 65535 < tx.length + m then (3 : Int) else 0) = er) := her
   clear her
   go_enter Tryz.func53, Tryz.ntmps53
   go_wp2_with fail
   refine KW.out.mono ?_
   rintro e w1 ⟨rfl, H1, HX1⟩
   have hbx : WBx w1 h g 0 := (H1.out.2.1.oth h _ 94 (0, 0) HO.out.box (by decide) (by decide)).trans HO.out.box
   have d1 : w1.cell? ⟨h, 1, none⟩ = some (.int .i64 0) := box_cell hbx 1 _ rfl
   have hh1 := box_lt hbx
   have hfz := box_frozen hbx 1
   have HS := Lib.hid (store_err hbx H1.out.1 hB er)
   have HB1 : Hid (B <= w1.heap.size) := (Nat.le_trans hB2 H1.out.2.1.below.size : B <= w1.heap.size)
   clear hbx KW
   go_wp2
   go_end0
   refine ⟨rfl, ⟨hB, ?_, ?_⟩, (Fm.fr H1.out.2.1 HX1.out).trans HS.out.2.2⟩
   · have := HB1.out; simpa using this
   · have hE := HER.out
     simp only [prun, Option.bind_some, pby, HL.out]
     by_cases hbig : 65535 < tx.length + m
     · rw [if_pos hbig] at hE ⊢
       subst hE
       exact ⟨HS.out.1, _, _, HS.out.2.1, by rw [if_pos hbig]; exact HO.out.len⟩
     · rw [if_neg hbig] at hE ⊢
       subst hE
       have h2 := HS.out.2.1
       rw [if_neg hbig] at h2
       exact ⟨HS.out.1, h2, by simp only [List.length_append, HL.out]; omega, HO.out.pls, by have := HO.out.num; simp only [List.length_append]; omega⟩
theorem keep16 : ∀ (t : List ByteArray) (pl : PLs) (start m : Nat), (∀ k p, (k, p) ∈ pl -> p < 16384) -> ∀ k p, (k, p) ∈ qkeep pl start m t -> p < 16384
 | [], pl, start, 0, h => h
 | [], pl, start, m + 1, h => h
 | s :: t, pl, start, 0, h => h
 | s :: t, pl, start, m + 1, h => by
   unfold qkeep
   split
   · exact h
   · next hs =>
     refine keep16 t _ _ m ?_
     split
     · exact h
     · intro k p hk
       rcases List.mem_cons.1 hk with e | hk
       · cases e; omega
       · exact h k p hk
set_option maxHeartbeats 1000000 in
theorem mw_name (B h g : Nat) (s : WSt) (a : Option Addr) (n c : Nat) (ss : List ByteArray) (back : Bool) (w : World) (hM : MW B w h g s) (hA : Arg w a n ss) (hn : n <= 8796093021952) (hk : nck ss = 0) :
   Calls Tryz.prog 80 #[.pointer (some ⟨h, 0, none⟩), .slice a n c, .bool back] w fun e w' => e = .returned (.tuple #[]) /\ Hid (MW B w' h g (prun (pnm ss back) s) /\ Fm B g w w') := by
 have HM : Hid (MW B w h g s) := hM
 obtain ⟨hB, hB2, hM⟩ := hM
 cases s with
 | none =>
   have c1 : w.cell? ⟨h, 1, none⟩ = some (.int .i64 3) := box_cell hM.box 1 _ rfl
   have hh := box_lt hM.box
   clear hM hA
   go_enter Tryz.func80, Tryz.ntmps80
   go_wp2
   go_end0
   exact ⟨rfl, HM.out, Fm.refl _ _ _⟩
 | some s =>
   obtain ⟨tx, pl⟩ := s
   have c0 : w.cell? ⟨h, 0, none⟩ = some (.pointer (some ⟨g, 0, none⟩)) := box_cell hM.box 0 _ rfl
   have c1 : w.cell? ⟨h, 1, none⟩ = some (.int .i64 0) := box_cell hM.box 1 _ rfl
   have hh := box_lt hM.box
   have KW := Lib.hid (wname_anyx B g tx pl a n c ss back w hM.wr hA hn hB2 hM.len hM.pls (by have := hM.num; have := hM.len; simp only at *; omega))
   have HO : Hid (WOk B w h g tx pl) := hM
   have HK : Hid (nck ss = 0) := hk
   clear hM hA hk
   obtain ⟨r, hr⟩ : ∃ r, wnm tx pl ss back = r := ⟨_, rfl⟩
   have HR : Hid (wnm tx pl ss back = r) := hr
   rw [hr] at KW
   clear hr
   obtain ⟨er, tx2, pl2⟩ := r
   go_enter Tryz.func80, Tryz.ntmps80
   go_wp2_with fail
   refine KW.out.mono ?_
   rintro e w1 ⟨rfl, H1⟩
   have hbx : WBx w1 h g 0 := (H1.out.2.1.oth h _ 94 (0, 0) HO.out.box (by decide) (by decide)).trans HO.out.box
   have d1 : w1.cell? ⟨h, 1, none⟩ = some (.int .i64 0) := box_cell hbx 1 _ rfl
   have hh1 := box_lt hbx
   have hfz := box_frozen hbx 1
   have HS := Lib.hid (store_err hbx H1.out.1 hB er)
   have HB1 : Hid (B <= w1.heap.size) := (Nat.le_trans hB2 H1.out.2.1.below.size : B <= w1.heap.size)
   clear hbx KW
   go_wp2
   go_end0
   refine ⟨rfl, ⟨hB, ?_, ?_⟩, (Fm.fr H1.out.2.1 H1.out.2.2).trans HS.out.2.2⟩
   · have := HB1.out; simpa using this
   · have hE := HR.out
     unfold wnm at hE
     rw [if_pos HK.out] at hE
     simp only [prun, Option.bind_some, pnm]
     have hg := grw_nm ss back pl tx.length
     simp only [pnm] at hg
     by_cases hbig : 65535 < tx.length + (qshort (if back then pl else []) ss).length
     · rw [if_pos hbig] at hE ⊢
       cases hE
       exact ⟨HS.out.1, _, _, HS.out.2.1, HO.out.len⟩
     · rw [if_neg hbig] at hE ⊢
       cases hE
       exact ⟨HS.out.1, HS.out.2.1, by simp only [List.length_append]; omega, keep16 ss pl _ _ HO.out.pls, by have := HO.out.num; simp only [List.length_append] at *; omega⟩
theorem rd_two (w : World) (n : Nat) (h : n <= 65535) : Rd (w.alloc (.cells #[.int .u8 ((n : Int) / 256), .int .u8 ((n : Int) % 256)] 5)) (some ⟨w.heap.size, 0, none⟩) (numB n 2) := by
 have := (new_b w (numB n 2) 2 (numB_len n 2 (by omega)) (by omega) (by intro z hz; simp [numB] at hz; omega)).rd
 simpa [numB] using this
theorem rd_four (w : World) (n : Nat) (h : n <= 4294967295) : Rd (w.alloc (.cells #[.int .u8 ((n : Int) / 16777216), .int .u8 ((n : Int) / 65536 % 256), .int .u8 ((n : Int) / 256 % 256), .int .u8 ((n : Int) % 256)] 5)) (some ⟨w.heap.size, 0, none⟩) (numB n 4) := by
 have := (new_b w (numB n 4) 4 (numB_len n 4 (by omega)) (by omega) (by intro z hz; simp [numB] at hz; omega)).rd
 simpa [numB] using this
set_option maxHeartbeats 1000000 in
theorem mw_u16 (B h g : Nat) (s : WSt) (n : Nat) (w : World) (hM : MW B w h g s) (hn : n <= 65535) :
   Calls Tryz.prog 81 #[.pointer (some ⟨h, 0, none⟩), .int .i64 n] w fun e w' => e = .returned (.tuple #[]) /\ Hid (MW B w' h g (prun (pby (numB n 2)) s) /\ Fm B g w w') := by
 have KP := Lib.hid (put16_yes n w (by omega) (by omega))
 have hb : Below w.heap.size w (w.alloc (.cells #[.int .u8 ((n : Int) / 256), .int .u8 ((n : Int) % 256)] 5)) := newq_below _ _
 have KB := Lib.hid (mw_bytes B h g s (some ⟨w.heap.size, 0, none⟩) 2 2 (numB n 2) _ (hM.below hb) (rd_two w n hn) (numB_len n 2 (by omega)) (by simp) (by omega))
 have HF : Hid (Fm B g w (w.alloc (.cells #[.int .u8 ((n : Int) / 256), .int .u8 ((n : Int) % 256)] 5))) := Fm.of hb hM.2.1 hM.g
 generalize w.alloc (.cells #[.int .u8 ((n : Int) / 256), .int .u8 ((n : Int) % 256)] 5) = w1 at *
 clear hM hb
 go_enter Tryz.func81, Tryz.ntmps81
 go_wp2_with fail
 refine KP.out.mono ?_
 rintro e w2 ⟨rfl, rfl⟩
 go_wp2_with fail
 refine KB.out.mono ?_
 rintro e w3 ⟨rfl, H3⟩
 go_wp2
 go_end0
 exact ⟨rfl, H3.out.1, HF.out.trans H3.out.2⟩
end Go.Proofs.YtkjnbgekaifdfaaGreat
namespace Go.Proofs.YtkjnbgekaifdfaaGreat
open Go.ChangeShapes Go.WideShapes Go.ChangeAt Go.RowKit Go.Maps
def setAt (at_ n : Nat) (s : WSt) : WSt := s.map fun s => (s.1.take at_ ++ numB n 2 ++ s.1.drop (at_ + 2), s.2)
set_option maxHeartbeats 1000000 in
theorem mw_set (B h g : Nat) (s : WSt) (at_ n : Nat) (w : World) (hM : MW B w h g s) (hn : n <= 65535) (ha : ∀ x, s = some x -> at_ + 2 <= x.1.length) :
   Calls Tryz.prog 85 #[.pointer (some ⟨h, 0, none⟩), .int .i64 at_, .int .i64 n] w fun e w' => e = .returned (.tuple #[]) /\ Hid (MW B w' h g (setAt at_ n s) /\ Fm B g w w') := by
 have HM : Hid (MW B w h g s) := hM
 obtain ⟨hB, hB2, hM⟩ := hM
 cases s with
 | none =>
   have c1 : w.cell? ⟨h, 1, none⟩ = some (.int .i64 3) := box_cell hM.box 1 _ rfl
   have hh := box_lt hM.box
   clear hM
   go_enter Tryz.func85, Tryz.ntmps85
   go_wp2
   go_end0
   exact ⟨rfl, HM.out, Fm.refl _ _ _⟩
 | some s =>
   obtain ⟨tx, pl⟩ := s
   have c0 : w.cell? ⟨h, 0, none⟩ = some (.pointer (some ⟨g, 0, none⟩)) := box_cell hM.box 0 _ rfl
   have c1 : w.cell? ⟨h, 1, none⟩ = some (.int .i64 0) := box_cell hM.box 1 _ rfl
   have hh := box_lt hM.box
   have hat := ha _ rfl
   simp only at hat
   have KW := Lib.hid (wset_yes B g tx pl tx.length at_ n w hM.wr rfl hM.len hn hat hB2)
   have HO : Hid (WOk B w h g tx pl) := hM
   have HA : Hid (at_ + 2 <= tx.length) := hat
   clear hM ha hat
   go_enter Tryz.func85, Tryz.ntmps85
   go_wp2_with fail
   refine KW.out.mono ?_
   rintro e w1 ⟨rfl, H1⟩
   have hbx : WBx w1 h g 0 := (H1.out.2.1.oth h _ 94 (0, 0) HO.out.box (by decide) (by decide)).trans HO.out.box
   have d1 : w1.cell? ⟨h, 1, none⟩ = some (.int .i64 0) := box_cell hbx 1 _ rfl
   have hh1 := box_lt hbx
   have hfz := box_frozen hbx 1
   have HS := Lib.hid (store_err hbx H1.out.1 hB 0)
   have HB1 : Hid (B <= w1.heap.size) := (Nat.le_trans hB2 H1.out.2.1.below.size : B <= w1.heap.size)
   clear hbx KW
   go_wp2
   go_end0
   refine ⟨rfl, ⟨hB, ?_, ?_⟩, (Fm.fr H1.out.2.1 H1.out.2.2).trans HS.out.2.2⟩
   · have := HB1.out; simpa using this
   · have hnl : (numB n 2).length = 2 := numB_len n 2 (by omega)
     have hA := HA.out
     have hlen : (tx.take at_ ++ numB n 2 ++ tx.drop (at_ + 2)).length = tx.length := by simp only [List.length_append, List.length_take, List.length_drop, hnl]; omega
     exact ⟨HS.out.1, HS.out.2.1, by have := HO.out.len; simp only at *; omega, HO.out.pls, by have := HO.out.num; simp only at *; omega⟩
def WLen (s : WSt) (k : Nat) : Prop := k <= 65535 /\ ∀ x, s = some x -> k = x.1.length
theorem mw_len (B h g : Nat) (s : WSt) (w : World) (hM : MW B w h g s) : Calls Tryz.prog 83 #[.pointer (some ⟨g, 0, none⟩)] w fun e w' => ∃ k : Nat, e = .returned (.int .i64 k) /\ w' = w /\ Hid (WLen s k) := by
 obtain ⟨hB, hB2, hM⟩ := hM
 cases s with
 | none =>
   obtain ⟨tx, pl, hW, hl⟩ := hM.wr
   refine (len_any B g tx pl w hW).mono ?_
   rintro e w' ⟨rfl, rfl⟩
   exact ⟨_, rfl, rfl, hl, fun x hx => by cases hx⟩
 | some s =>
   refine (len_any B g s.1 s.2 w hM.wr).mono ?_
   rintro e w' ⟨rfl, rfl⟩
   exact ⟨_, rfl, rfl, hM.len, fun x hx => by cases hx; rfl⟩
theorem MW.ptr {B : Nat} {w : World} {h g : Nat} {s : WSt} (hm : MW B w h g s) : w.cell? ⟨h, 0, none⟩ = some (.pointer (some ⟨g, 0, none⟩)) /\ h < w.heap.size := by
 obtain ⟨h1, h2, h3⟩ := hm
 cases s with
 | none => exact ⟨box_cell h3.box 0 _ rfl, box_lt h3.box⟩
 | some s => exact ⟨box_cell h3.box 0 _ rfl, box_lt h3.box⟩
theorem Fm.cell {B g : Nat} {w w' : World} (hf : Fm B g w w') {b : Nat} {cs : Array Value} {t : TypeId} (hb : w.heap[b]? = some (.cells cs t)) (h5 : t ≠ 5) (h6 : t ≠ 125) (h7 : t ≠ 94) : w'.heap[b]? = some (.cells cs t) := (hf.oth b cs t _ hb h5 h6 h7).trans hb
theorem TRd.arg {w : World} {s : Sl} {ss : List ByteArray} (h : TRd w s ss) : Arg w s.a s.n ss := ⟨h.rd, h.len, by have := h.cap; omega, h.z63⟩
theorem nck_n {ss : List ByteArray} (h : nck ss = 0) : ss.length <= 255 := by
 have := (nck_small h).1
 have := nsz_len ss
 omega
set_option maxHeartbeats 1000000 in
theorem mw_question (B h g : Nat) (s : WSt) (x : QA) (q : Qn) (w : World) (hM : MW B w h g s) (hq : QOk w x q) (hk : nck q.nm = 0) :
   Calls Tryz.prog 54 #[.pointer (some ⟨h, 0, none⟩), .agg #[.slice x.s.a x.s.n x.s.c, .int .u16 x.ty, .int .u16 x.cl]] w fun e w' => e = .returned (.tuple #[]) /\ Hid (MW B w' h g (prun (pqn q) s) /\ Fm B g w w') := by
 have hb : Below w.heap.size w (w.alloc (.cells #[.slice x.s.a x.s.n x.s.c, .int .u16 x.ty, .int .u16 x.cl] 55)) := newq_below _ _
 have hbx0 : (w.alloc (.cells #[.slice x.s.a x.s.n x.s.c, .int .u16 x.ty, .int .u16 x.cl] 55)).heap[w.heap.size]? = some (.cells #[.slice x.s.a x.s.n x.s.c, .int .u16 x.ty, .int .u16 x.cl] 55) := heap_alloc_new _ _
 have hF0 : Hid (Fm B g w (w.alloc (.cells #[.slice x.s.a x.s.n x.s.c, .int .u16 x.ty, .int .u16 x.cl] 55))) := Fm.of hb hM.2.1 hM.g
 have hnn : x.s.n <= 8796093021952 := by have := hq.rd.len; have := nck_n hk; omega
 have K1 := Lib.hid (mw_name B h g s x.s.a x.s.n x.s.c q.nm true _ (hM.below hb) (hq.rd.below hb).arg hnn hk)
 have HT : Hid (x.ty = q.ty /\ x.cl = q.cl /\ q.ty <= 65535 /\ q.cl <= 65535) := ⟨hq.ty, hq.cl, by have := hq.bt; omega, by have := hq.bc; omega⟩
 have t1 : x.ty <= 65535 := by have := HT.out; omega
 have t2 : x.cl <= 65535 := by have := HT.out; omega
 clear hM hq hk hb
 go_enter Tryz.func54, Tryz.ntmps54
 go_wp2_with fail
 generalize w.alloc (.cells #[.slice x.s.a x.s.n x.s.c, .int .u16 x.ty, .int .u16 x.cl] 55) = w0 at *
 obtain ⟨b, hbb⟩ : ∃ b, b = w.heap.size := ⟨_, rfl⟩
 rw [<- hbb] at hbx0 ⊢
 clear hbb
 have HB0 : Hid (w0.heap[b]? = some (.cells #[.slice x.s.a x.s.n x.s.c, .int .u16 x.ty, .int .u16 x.cl] 55)) := hbx0
 have k0 := box_cell hbx0 0 _ rfl
 have hl0 := box_lt hbx0
 go_wp2_with fail
 refine K1.out.mono ?_
 rintro e w1 ⟨rfl, H1⟩
 have HB1 : Hid (w1.heap[b]? = some (.cells #[.slice x.s.a x.s.n x.s.c, .int .u16 x.ty, .int .u16 x.cl] 55)) := H1.out.2.cell HB0.out (by decide) (by decide) (by decide)
 have k1 := box_cell HB1.out 1 _ rfl
 have hl1 := box_lt HB1.out
 have K2 := Lib.hid (mw_u16 B h g _ x.ty w1 H1.out.1 t1)
 clear K1 k0 hl0 hbx0
 go_wp2_with fail
 refine K2.out.mono ?_
 rintro e w2 ⟨rfl, H2⟩
 have HB2 : Hid (w2.heap[b]? = some (.cells #[.slice x.s.a x.s.n x.s.c, .int .u16 x.ty, .int .u16 x.cl] 55)) := H2.out.2.cell HB1.out (by decide) (by decide) (by decide)
 have k2 := box_cell HB2.out 2 _ rfl
 have hl2 := box_lt HB2.out
 have K3 := Lib.hid (mw_u16 B h g _ x.cl w2 H2.out.1 t2)
 clear K2 k1 hl1
 go_wp2_with fail
 refine K3.out.mono ?_
 rintro e w3 ⟨rfl, H3⟩
 go_wp2
 go_end0
 refine ⟨rfl, ?_, ((hF0.out.trans H1.out.2).trans H2.out.2).trans H3.out.2⟩
 have := H3.out.1
 rw [pqn, prun_seq, prun_seq, <- HT.out.1, <- HT.out.2.1]
 exact this
end Go.Proofs.YtkjnbgekaifdfaaGreat
namespace Go.Proofs.YtkjnbgekaifdfaaGreat
open Go.ChangeShapes Go.WideShapes Go.ChangeAt Go.RowKit Go.Maps
theorem RdN.fm {B g n : Nat} {w w' : World} {a : Option Addr} {L : List Int} (h : RdN n w a L) (hf : Fm B g w w') (ht : ∀ j, tbk w g = some j -> j < n) : RdN n w' a L := by
 have key : ∀ b o sp, a = some ⟨b, o, sp⟩ -> w'.heap[b]? = w.heap[b]? := by
   intro b o sp e
   obtain ⟨h1, cs, h2⟩ := h.2 b o sp e
   exact hf.fx.row b cs _ h2 (fun e2 => by have := ht b e2; omega)
 refine ⟨h.1.of_blocks hf.fx.size (fun b o e => key b o none e), fun b o sp e => ⟨(h.2 b o sp e).1, ?_⟩⟩
 rw [key b o sp e]
 exact (h.2 b o sp e).2
def nsumk (ns : List (List ByteArray)) (k : Nat) : Nat := ((ns.take k).map nsz).sum
theorem nsumk_step (ns : List (List ByteArray)) (k : Nat) (h : k < ns.length) : nsumk ns (k + 1) = nsumk ns k + nsz ns[k] := by
 unfold nsumk
 rw [List.take_succ_eq_append_getElem h, List.map_append, List.sum_append]
 simp only [List.map_cons, List.map_nil, List.sum_cons, List.sum_nil, Nat.add_zero]
theorem nsumk_all (ns : List (List ByteArray)) : nsumk ns ns.length = (ns.map nsz).sum := by unfold nsumk; rw [List.take_length]
theorem nsumk_le (ns : List (List ByteArray)) (k : Nat) : nsumk ns k <= (ns.map nsz).sum := by
 unfold nsumk
 have e : ((ns.take k).map nsz).sum + ((ns.drop k).map nsz).sum = (ns.map nsz).sum := by rw [<- List.sum_append, <- List.map_append, List.take_append_drop]
 omega
theorem pls_snoc (l : List Pc) (f : Pc) (s : WSt) : prun (pls (l ++ [f])) s = prun f (prun (pls l) s) := by
 rw [pls_app, prun_seq]
 congr 1
 funext pl n
 simp [pls, psq, pby]
set_option maxHeartbeats 4000000 in
theorem mw_data0 (B h g : Nat) (s : WSt) (t : Nat) (a1 : Option Addr) (n1 k1' : Nat) (p2 p3 p4 : Sl) (d : Dat) (W0 w : World) (hM : MW B w h g s) (hW0 : W0.heap.size = B) (hD : DRd W0 ⟨⟨a1, n1, k1'⟩, p2, p3, p4⟩ d) (hb : Below B W0 w) (hck : checkF t d = 0) (hBd : Bd d) :
   Calls Tryz.prog 84 #[.pointer (some ⟨h, 0, none⟩), .int .u16 t, .agg #[.slice a1 n1 k1', .slice p2.a p2.n p2.c, .slice p3.a p3.n p3.c, .slice p4.a p4.n p4.c]] w fun e w' => e = .returned (.tuple #[]) /\ Hid (MW B w' h g (prun (pdat t d) s) /\ Fm B g w w') := by
 have hb0 : Below w.heap.size w (w.alloc (.cells #[.slice a1 n1 k1', .slice p2.a p2.n p2.c, .slice p3.a p3.n p3.c, .slice p4.a p4.n p4.c] 60)) := newq_below _ _
 have hM0 := hM.below hb0
 have hF0 : Hid (Fm B g w (w.alloc (.cells #[.slice a1 n1 k1', .slice p2.a p2.n p2.c, .slice p3.a p3.n p3.c, .slice p4.a p4.n p4.c] 60))) := Fm.of hb0 hM.2.1 hM.g
 have hbx : (w.alloc (.cells #[.slice a1 n1 k1', .slice p2.a p2.n p2.c, .slice p3.a p3.n p3.c, .slice p4.a p4.n p4.c] 60)).heap[w.heap.size]? = some (.cells #[.slice a1 n1 k1', .slice p2.a p2.n p2.c, .slice p3.a p3.n p3.c, .slice p4.a p4.n p4.c] 60) := heap_alloc_new _ _
 have hB0 : Hid (Below B W0 (w.alloc (.cells #[.slice a1 n1 k1', .slice p2.a p2.n p2.c, .slice p3.a p3.n p3.c, .slice p4.a p4.n p4.c] 60))) := hb.trans (hb0.mono hM.2.1)
 obtain ⟨b, hbb⟩ : ∃ b, b = w.heap.size := ⟨_, rfl⟩
 cases s with
 | none =>
   have c1 : (w.alloc (.cells #[.slice a1 n1 k1', .slice p2.a p2.n p2.c, .slice p3.a p3.n p3.c, .slice p4.a p4.n p4.c] 60)).cell? ⟨h, 1, none⟩ = some (.int .i64 3) := box_cell hM0.2.2.box 1 _ rfl
   have hh := box_lt hM0.2.2.box
   have HM := Lib.hid hM0
   clear hM hM0 hD hb hb0 hbx hbb
   go_enter Tryz.func84, Tryz.ntmps84
   go_wp2_with fail
   generalize w.alloc (.cells #[.slice a1 n1 k1', .slice p2.a p2.n p2.c, .slice p3.a p3.n p3.c, .slice p4.a p4.n p4.c] 60) = w0 at *
   go_wp2_with fail
   refine bodyPost_ret (results_none rfl _ _ _) rfl ?_
   exact ⟨rfl, HM.out, hF0.out⟩
 | some s =>
   have c1 : (w.alloc (.cells #[.slice a1 n1 k1', .slice p2.a p2.n p2.c, .slice p3.a p3.n p3.c, .slice p4.a p4.n p4.c] 60)).cell? ⟨h, 1, none⟩ = some (.int .i64 0) := box_cell hM0.2.2.box 1 _ rfl
   have hh := box_lt hM0.2.2.box
   have HM := Lib.hid hM0
   have HD : Hid (∀ W, Below B W0 W -> DRd W ⟨⟨a1, n1, k1'⟩, p2, p3, p4⟩ d) := fun W hW => hD.below (by rw [hW0]; exact hW)
   have HCK : Hid (checkF t d = 0 /\ ∀ n ∈ d.ns, nck n = 0) := ⟨hck, (check_parts hck).2.2.1⟩
   obtain ⟨hsp, hle, _⟩ := wr_split hck
   have HSP : Hid (prun (pdat t d) (some s) = prun (pby ((writeF t d).drop (ahd t + dns d))) (prun (pls (d.ns.map fun n => pnm n (sqt t))) (prun (pby ((writeF t d).take (ahd t))) (some s)))) := (show _ = _ by rw [pdat, prun_seq, prun_seq])
   have KB := Lib.hid (bytes5_x t ⟨⟨a1, n1, k1'⟩, p2, p3, p4⟩ d _ (HD.out _ hB0.out) hBd)
   simp only at KB
   rw [hck] at KB
   have hlen := wlen hck
   generalize writeF t d = L at *
   have KN := fun W => Lib.hid (namesin_any t W)
   have KQ := fun W => Lib.hid (squeezed_any t W)
   generalize hah : ahd t = A at *
   generalize cnt t = Cn at *
   have HDN : Hid (dns d = (d.ns.map nsz).sum) := rfl
   generalize hdn : dns d = Dn at *
   generalize hst : some s = s0 at *
   rw [<- hbb] at hbx
   have HDL : Hid (d.ns.length = n1) := hD.h1.len
   have hn1 : n1 <= 1000 := by have := hBd.n; have := HDL.out; omega
   clear hM hM0 hD hb hb0 hck hst hah hsp hdn
   go_enter Tryz.func84, Tryz.ntmps84
   go_wp2_with fail
   rw [<- hbb]
   clear hbb
   generalize w.alloc (.cells #[.slice a1 n1 k1', .slice p2.a p2.n p2.c, .slice p3.a p3.n p3.c, .slice p4.a p4.n p4.c] 60) = w0 at *
   have HBX : Hid (w0.heap[b]? = some (.cells #[.slice a1 n1 k1', .slice p2.a p2.n p2.c, .slice p3.a p3.n p3.c, .slice p4.a p4.n p4.c] 60)) := hbx
   have k0 := box_cell hbx 0 _ rfl
   have k1 := box_cell hbx 1 _ rfl
   have k2 := box_cell hbx 2 _ rfl
   have k3 := box_cell hbx 3 _ rfl
   have hl0 := box_lt hbx
   clear hbx
   go_wp2_with fail
   refine KB.out.mono ?_
   rintro e w1 ⟨p, rfl, H1⟩
   obtain ⟨pa, pn, pc⟩ := p
   simp only at H1
   have HP1 : Hid (RdN w0.heap.size w1 pa L /\ L.length = pn) := ⟨(H1.out.2.2.2.1 trivial).2, (H1.out.2.2.2.1 trivial).1.symm⟩
   have pq1 := H1.out.1
   have pq2 := H1.out.2.1
   have pq3 := H1.out.2.2.1
   have HB1 := Lib.hid H1.out.2.2.2.2.2
   have HM1 := Lib.hid (HM.out.below HB1.out)
   have hpn : A + Dn <= pn := by have := HP1.out.2; omega
   have hpn2 : pn <= 65535 := by have := HP1.out.2; omega
   have KB1 := Lib.hid (mw_bytes B h g s0 pa A pc (L.take A) w1 HM1.out (by have := HP1.out.1.1.cut 0 A (by have := HP1.out.2; omega) (a' := pa) (fun _ b o e => by simpa using e); simpa using this) (by rw [List.length_take]; have := HP1.out.2; omega) pq3 (by omega))
   clear KB H1
   have hAc : (A : Int) <= (pc : Int) := by omega
   go_wp2_with fail
   refine (KN w1).out.mono ?_
   rintro e w1' ⟨rfl, hw1'⟩
   subst w1'
   go_wp2_with fail
   refine KB1.out.mono ?_
   rintro e w2 ⟨rfl, H2⟩
   have HBX2 : Hid (w2.heap[b]? = some (.cells #[.slice a1 n1 k1', .slice p2.a p2.n p2.c, .slice p3.a p3.n p3.c, .slice p4.a p4.n p4.c] 60)) := H2.out.2.cell ((HB1.out.block b hl0).trans HBX.out) (by decide) (by decide) (by decide)
   have j0 := box_cell HBX2.out 0 _ rfl
   have hl2 := box_lt HBX2.out
   clear KB1 k0 k1 k2 k3
   have HBW : Hid (Below B W0 w2) := (hB0.out.trans (HB1.out.mono HM.out.2.1)).trans H2.out.2.below
   go_wp2_with fail
   go_loopw [8, 36] (fun y z wr => ∃ k : Nat, k <= n1 /\ y = .int .i64 ((A + nsumk d.ns k : Nat) : Int) /\ z = .int .i64 k /\ Hid (MW B wr h g (prun (pls ((d.ns.take k).map fun n => pnm n (sqt t))) (prun (pby (L.take A)) s0)) /\ Fm B g w2 wr)) (fun _ z _ => n1 - (intOf z).toNat)
   case atStart =>
     refine ⟨0, Nat.zero_le _, by simp [nsumk], rfl, ?_, Fm.refl _ _ _⟩
     have hmw := H2.out.1
     have e : prun (pls ((d.ns.take 0).map fun n => pnm n (sqt t))) (prun (pby (L.take A)) s0) = prun (pby (L.take A)) s0 := by
       simp only [List.take_zero, List.map_nil, pls]
       generalize hS : prun (pby (L.take A)) s0 = S
       cases S with
       | none => rfl
       | some S =>
         have hlS : S.1.length <= 65535 := by
           rw [hS] at hmw
           exact hmw.2.2.len
         simp only [prun, Option.bind_some, pby, List.length_nil, Nat.add_zero, List.append_nil]
         rw [if_neg (by omega)]
     rw [e]
     exact hmw
   case round =>
     obtain ⟨k, hk, rfl, rfl, HK⟩ := hrel
     by_cases hlt : k < n1
     · have hlt' : (k : Int) < (n1 : Int) := by omega
       have hks : k < d.ns.length := by rw [HDL.out]; exact hlt
       have HWr : Hid (Below B W0 wr) := HBW.out.trans HK.out.2.below
       obtain ⟨nb, no, hna, hnb, y, hcell, hty⟩ := ((HD.out wr HWr.out).h1).at k hks
       simp only at hna
       have hnk := HCK.out.2 _ (List.getElem_mem hks)
       have HST : Hid (nsumk d.ns (k + 1) = nsumk d.ns k + nsz d.ns[k]) := nsumk_step d.ns k hks
       have hsm : nsumk d.ns (k + 1) <= Dn := by rw [HDN.out]; exact nsumk_le _ _
       have hz255 : nsz d.ns[k] <= 255 := (nck_small hnk).1
       have HTK : Hid ((d.ns.take (k + 1)).map (fun n => pnm n (sqt t)) = (d.ns.take k).map (fun n => pnm n (sqt t)) ++ [pnm d.ns[k] (sqt t)]) := (show _ = _ by rw [List.take_succ_eq_append_getElem hks, List.map_append]; rfl)
       have hyn : y.n <= 8796093021952 := by have := hty.len; have := nck_n hnk; omega
       have KNM := Lib.hid (mw_name B h g _ y.a y.n y.c d.ns[k] (sqt t) wr HK.out.1 hty.arg hyn hnk)
       have KSZ : Hid (∀ W, Below B W0 W -> Calls Tryz.prog 49 #[.slice y.a y.n y.c] W fun e w' => e = .returned (.int .i64 (nsz d.ns[k])) /\ w' = W) := by
         intro W hW
         obtain ⟨nb2, no2, hna2, _, y2, hcell2, hty2⟩ := ((HD.out W hW).h1).at k hks
         simp only at hna2
         rw [hna] at hna2
         injection hna2 with hna2
         injection hna2 with e1 e2 _
         subst e1 e2
         have hnbB : nb < B := by
           obtain ⟨nb3, no3, hna3, hnb3, _⟩ := ((HD.out W0 (Below.refl _ _)).h1).at k hks
           simp only at hna3
           rw [hna] at hna3
           injection hna3 with hna3
           injection hna3 with e1 e2 _
           subst e1
           omega
         have e3 : W.cell? ⟨nb, no + k, none⟩ = wr.cell? ⟨nb, no + k, none⟩ := by
           have q1 := hW.block nb hnbB
           have q2 := HWr.out.block nb hnbB
           simp only [World.cell?, q1, q2]
         rw [hcell2, hcell] at e3
         have e4 : y2.a = y.a /\ y2.n = y.n := by injection e3 with e3; injection e3 with e5 e6 e7; exact ⟨e5, e6⟩
         have := psize_eq y.a y.n y.c d.ns[k] W (by rw [<- e4.1]; exact hty2.rd) (by rw [<- e4.2]; exact hty2.len) (by omega)
         exact this
       subst hna
       generalize d.ns[k] = nm at *
       generalize nsumk d.ns k = S at *
       rw [HST.out] at hsm
       clear hnk
       go_wp2_with fail
       refine (KQ wr).out.mono ?_
       rintro e w3 ⟨rfl, hw3⟩
       subst w3
       go_wp2_with fail
       refine KNM.out.mono ?_
       rintro e w4 ⟨rfl, H4⟩
       have HW4 : Hid (Below B W0 w4) := HWr.out.trans H4.out.2.below
       have K5 := Lib.hid (KSZ.out w4 HW4.out)
       clear KSZ KNM
       go_wp2_with fail
       refine K5.out.mono ?_
       rintro e w5 ⟨rfl, hw5⟩
       subst w5
       go_wp2
       refine ⟨⟨k + 1, by omega, by rw [HST.out]; go_num, by go_num, ?_, HK.out.2.trans H4.out.2⟩, by simp [intOf]; omega⟩
       rw [HTK.out, pls_snoc]
       exact H4.out.1
     · have hkk : k = n1 := by omega
       subst k
       have HAll : Hid (nsumk d.ns n1 = Dn /\ d.ns.take n1 = d.ns) := ⟨by rw [HDN.out, <- HDL.out]; exact nsumk_all _, by rw [<- HDL.out]; exact List.take_length⟩
       rw [HAll.out.1]
       have HK2 : Hid (MW B wr h g (prun (pls (d.ns.map fun n => pnm n (sqt t))) (prun (pby (L.take A)) s0)) /\ Fm B g w2 wr) := by have := HK.out; rw [HAll.out.2] at this; exact this
       clear HK
       have HPr : Hid (RdN w0.heap.size wr pa L) := HP1.out.1.fm (H2.out.2.trans HK2.out.2) (fun j hj => by
         have e : tbk w1 g = tbk w0 g := tbk_same (HB1.out.block g HM.out.g)
         rw [e] at hj
         exact HM.out.tb j hj)
       have hlt2 : ((A + Dn : Nat) : Int) <= (pn : Int) := by omega
       have KB2 : Hid (∀ a' c', (0 < pn - (A + Dn) -> ∀ b o, pa = some ⟨b, o, none⟩ -> a' = some ⟨b, o + (A + Dn), none⟩) -> (a' = none -> c' = 0) -> Calls Tryz.prog 53 #[.pointer (some ⟨h, 0, none⟩), .slice a' (pn - (A + Dn)) c'] wr fun e w' => e = .returned (.tuple #[]) /\ Hid (MW B w' h g (prun (pby (L.drop (A + Dn))) (prun (pls (d.ns.map fun n => pnm n (sqt t))) (prun (pby (L.take A)) s0))) /\ Fm B g wr w')) := by
         intro a' c' ha' hn'
         have hrd := HPr.out.1.cut (A + Dn) (pn - (A + Dn)) (by have := HP1.out.2; omega) (a' := a') ha'
         rw [List.take_of_length_le (by rw [List.length_drop]; have := HP1.out.2; omega)] at hrd
         exact mw_bytes B h g _ a' (pn - (A + Dn)) c' (L.drop (A + Dn)) wr HK2.out.1 hrd (by rw [List.length_drop]; have := HP1.out.2; omega) hn' (by omega)
       generalize A + Dn = AD at *
       go_wp2_with fail
       · refine (KB2.out pa 0 (fun h0 => absurd h0 (by omega)) (fun _ => rfl)).mono ?_
         rintro e w6 ⟨rfl, H6⟩
         go_wp2
         go_end0
         refine ⟨rfl, ?_, (((hF0.out.trans (Fm.of HB1.out HM.out.2.1 HM.out.g)).trans H2.out.2).trans HK2.out.2).trans H6.out.2⟩
         rw [HSP.out]
         exact H6.out.1
       · refine (KB2.out (pa.map fun x => x.add AD) (pc - AD) (fun _ b o e => by subst e; simp [Addr.add]) (fun e => by
           cases pa with
           | none => have := pq3 rfl; omega
           | some a => cases e)).mono ?_
         rintro e w6 ⟨rfl, H6⟩
         go_wp2
         go_end0
         refine ⟨rfl, ?_, (((hF0.out.trans (Fm.of HB1.out HM.out.2.1 HM.out.g)).trans H2.out.2).trans HK2.out.2).trans H6.out.2⟩
         rw [HSP.out]
         exact H6.out.1
theorem mw_data (B h g : Nat) (s : WSt) (t : Nat) (x : DA) (d : Dat) (W0 w : World) (hM : MW B w h g s) (hW0 : W0.heap.size = B) (hD : DRd W0 x d) (hb : Below B W0 w) (hck : checkF t d = 0) (hBd : Bd d) :
   Calls Tryz.prog 84 #[.pointer (some ⟨h, 0, none⟩), .int .u16 t, .agg #[.slice x.p1.a x.p1.n x.p1.c, .slice x.p2.a x.p2.n x.p2.c, .slice x.p3.a x.p3.n x.p3.c, .slice x.p4.a x.p4.n x.p4.c]] w fun e w' => e = .returned (.tuple #[]) /\ Hid (MW B w' h g (prun (pdat t d) s) /\ Fm B g w w') := by
 obtain ⟨⟨a1, n1, k1⟩, p2, p3, p4⟩ := x
 exact mw_data0 B h g s t a1 n1 k1 p2 p3 p4 d W0 w hM hW0 hD hb hck hBd
end Go.Proofs.YtkjnbgekaifdfaaGreat
namespace Go.Proofs.YtkjnbgekaifdfaaGreat
open Go.ChangeShapes Go.WideShapes Go.ChangeAt Go.RowKit Go.Maps
theorem mw_set_none (B h g : Nat) (z1 z2 : Int) (w : World) (hM : MW B w h g none) :
   Calls Tryz.prog 85 #[.pointer (some ⟨h, 0, none⟩), .int .i64 z1, .int .i64 z2] w fun e w' => e = .returned (.tuple #[]) /\ Hid (MW B w' h g none /\ Fm B g w w') := by
 have HM : Hid (MW B w h g none) := hM
 have c1 : w.cell? ⟨h, 1, none⟩ = some (.int .i64 3) := box_cell hM.2.2.box 1 _ rfl
 have hh := box_lt hM.2.2.box
 clear hM
 go_enter Tryz.func85, Tryz.ntmps85
 go_wp2
 go_end0
 exact ⟨rfl, HM.out, Fm.refl _ _ _⟩
theorem sz_run (f : Pc) (tx : List Int) (pl : PLs) : (prun f (prun (pby (numB 0 2)) (some (tx, pl))) = none /\ prun (psz f) (some (tx, pl)) = none) ∨
   ∃ y, prun f (prun (pby (numB 0 2)) (some (tx, pl))) = some y /\ y.1.length = tx.length + 2 + (f pl (tx.length + 2)).1.length /\ prun (psz f) (some (tx, pl)) = setAt tx.length (f pl (tx.length + 2)).1.length (some y) /\ prun (pby (numB 0 2)) (some (tx, pl)) = some (tx ++ numB 0 2, pl) := by
 have h0 : (numB 0 2).length = 2 := numB_len _ _ (by omega)
 have h1 : (numB (f pl (tx.length + 2)).1.length 2).length = 2 := numB_len _ _ (by omega)
 by_cases hs : 65535 < tx.length + (2 + (f pl (tx.length + 2)).1.length)
 · left
   constructor
   · simp only [prun, Option.bind_some, pby, h0]
     by_cases h2 : 65535 < tx.length + 2
     · rw [if_pos h2]; rfl
     · rw [if_neg h2]
       simp only [Option.bind_some, List.length_append, h0]
       rw [if_pos (by omega)]
   · simp only [prun, Option.bind_some, psz, List.length_append, h1]
     rw [if_pos hs]
 · right
   have e2 : prun (pby (numB 0 2)) (some (tx, pl)) = some (tx ++ numB 0 2, pl) := by
     simp only [prun, Option.bind_some, pby, h0]
     rw [if_neg (by omega)]
   refine ⟨(tx ++ numB 0 2 ++ (f pl (tx.length + 2)).1, (f pl (tx.length + 2)).2), ?_, ?_, ?_, e2⟩
   · rw [e2]
     simp only [prun, Option.bind_some, List.length_append, h0]
     rw [if_neg (by omega)]
   · simp only [List.length_append, h0]
   · simp only [prun, Option.bind_some, psz, List.length_append, h1, setAt, Option.map_some]
     rw [if_neg hs]
     congr 1
     simp only [Prod.mk.injEq, and_true]
     rw [List.append_assoc tx, List.take_left, List.drop_append, List.drop_eq_nil_of_le (by omega), List.nil_append, show tx.length + 2 - tx.length = 2 by omega, List.drop_append, h0, List.drop_eq_nil_of_le (by omega)]
     simp
set_option maxHeartbeats 4000000 in
theorem mw_record (B h g : Nat) (s : WSt) (x : RA) (r : Rec) (W0 w : World) (hM : MW B w h g s) (hW0 : W0.heap.size = B) (hR : RRd W0 x r) (hb : Below B W0 w) (ho : nck r.ow = 0) (hck : checkF r.t r.d = 0) (hBd : Bd r.d) (hRb : Rb r) :
   Calls Tryz.prog 55 #[.pointer (some ⟨h, 0, none⟩), .agg #[.slice x.o.a x.o.n x.o.c, .int .u16 r.t, .int .u16 r.cl, .int .u32 r.tt, .slice x.d.p1.a x.d.p1.n x.d.p1.c, .slice x.d.p2.a x.d.p2.n x.d.p2.c, .slice x.d.p3.a x.d.p3.n x.d.p3.c, .slice x.d.p4.a x.d.p4.n x.d.p4.c]] w fun e w' => e = .returned (.tuple #[]) /\ Hid (MW B w' h g (prun (prec r) s) /\ Fm B g w w') := by
 have hb0 : Below w.heap.size w (w.alloc (.cells #[.slice x.o.a x.o.n x.o.c, .int .u16 r.t, .int .u16 r.cl, .int .u32 r.tt, .slice x.d.p1.a x.d.p1.n x.d.p1.c, .slice x.d.p2.a x.d.p2.n x.d.p2.c, .slice x.d.p3.a x.d.p3.n x.d.p3.c, .slice x.d.p4.a x.d.p4.n x.d.p4.c] 62)) := newq_below _ _
 have hM0 := hM.below hb0
 have HF0 : Hid (Fm B g w (w.alloc (.cells #[.slice x.o.a x.o.n x.o.c, .int .u16 r.t, .int .u16 r.cl, .int .u32 r.tt, .slice x.d.p1.a x.d.p1.n x.d.p1.c, .slice x.d.p2.a x.d.p2.n x.d.p2.c, .slice x.d.p3.a x.d.p3.n x.d.p3.c, .slice x.d.p4.a x.d.p4.n x.d.p4.c] 62))) := Fm.of hb0 hM.2.1 hM.g
 have hbx : (w.alloc (.cells #[.slice x.o.a x.o.n x.o.c, .int .u16 r.t, .int .u16 r.cl, .int .u32 r.tt, .slice x.d.p1.a x.d.p1.n x.d.p1.c, .slice x.d.p2.a x.d.p2.n x.d.p2.c, .slice x.d.p3.a x.d.p3.n x.d.p3.c, .slice x.d.p4.a x.d.p4.n x.d.p4.c] 62)).heap[w.heap.size]? = some (.cells #[.slice x.o.a x.o.n x.o.c, .int .u16 r.t, .int .u16 r.cl, .int .u32 r.tt, .slice x.d.p1.a x.d.p1.n x.d.p1.c, .slice x.d.p2.a x.d.p2.n x.d.p2.c, .slice x.d.p3.a x.d.p3.n x.d.p3.c, .slice x.d.p4.a x.d.p4.n x.d.p4.c] 62) := heap_alloc_new _ _
 have HB0 : Hid (Below B W0 (w.alloc (.cells #[.slice x.o.a x.o.n x.o.c, .int .u16 r.t, .int .u16 r.cl, .int .u32 r.tt, .slice x.d.p1.a x.d.p1.n x.d.p1.c, .slice x.d.p2.a x.d.p2.n x.d.p2.c, .slice x.d.p3.a x.d.p3.n x.d.p3.c, .slice x.d.p4.a x.d.p4.n x.d.p4.c] 62))) := hb.trans (hb0.mono hM.2.1)
 obtain ⟨b, hbb⟩ : ∃ b, b = w.heap.size := ⟨_, rfl⟩
 have HR : Hid (∀ W, Below B W0 W -> RRd W x r) := fun W hW => hR.below (by rw [hW0]; exact hW)
 have hon : x.o.n <= 8796093021952 := by have := hR.1.len; have := nck_n ho; omega
 have K1 := Lib.hid (mw_name B h g s x.o.a x.o.n x.o.c r.ow true _ hM0 (HR.out _ HB0.out).1.arg hon ho)
 obtain ⟨t1, t2, t3⟩ := hRb
 have KD : Hid (∀ S W, MW B W h g S -> Below B W0 W -> Calls Tryz.prog 84 #[.pointer (some ⟨h, 0, none⟩), .int .u16 r.t, .agg #[.slice x.d.p1.a x.d.p1.n x.d.p1.c, .slice x.d.p2.a x.d.p2.n x.d.p2.c, .slice x.d.p3.a x.d.p3.n x.d.p3.c, .slice x.d.p4.a x.d.p4.n x.d.p4.c]] W fun e w' => e = .returned (.tuple #[]) /\ Hid (MW B w' h g (prun (pdat r.t r.d) S) /\ Fm B g W w')) := fun S W hS hW => mw_data B h g S r.t x.d r.d W0 W hS hW0 hR.2 hW hck hBd
 rw [<- hbb] at hbx
 clear hM hM0 hR hb hb0 hck ho
 go_enter Tryz.func55, Tryz.ntmps55
 go_wp2_with fail
 rw [<- hbb]
 clear hbb
 generalize w.alloc (.cells #[.slice x.o.a x.o.n x.o.c, .int .u16 r.t, .int .u16 r.cl, .int .u32 r.tt, .slice x.d.p1.a x.d.p1.n x.d.p1.c, .slice x.d.p2.a x.d.p2.n x.d.p2.c, .slice x.d.p3.a x.d.p3.n x.d.p3.c, .slice x.d.p4.a x.d.p4.n x.d.p4.c] 62) = w0 at *
 have HX0 : Hid (w0.heap[b]? = some (.cells #[.slice x.o.a x.o.n x.o.c, .int .u16 r.t, .int .u16 r.cl, .int .u32 r.tt, .slice x.d.p1.a x.d.p1.n x.d.p1.c, .slice x.d.p2.a x.d.p2.n x.d.p2.c, .slice x.d.p3.a x.d.p3.n x.d.p3.c, .slice x.d.p4.a x.d.p4.n x.d.p4.c] 62)) := hbx
 have k0 := box_cell hbx 0 _ rfl
 have hl0 := box_lt hbx
 clear hbx
 go_wp2_with fail
 refine K1.out.mono ?_
 rintro e w1 ⟨rfl, H1⟩
 generalize hS1 : prun (pnm r.ow true) s = S1 at *
 have HS1 := Lib.hid hS1
 have HX1 : Hid (w1.heap[b]? = some (.cells #[.slice x.o.a x.o.n x.o.c, .int .u16 r.t, .int .u16 r.cl, .int .u32 r.tt, .slice x.d.p1.a x.d.p1.n x.d.p1.c, .slice x.d.p2.a x.d.p2.n x.d.p2.c, .slice x.d.p3.a x.d.p3.n x.d.p3.c, .slice x.d.p4.a x.d.p4.n x.d.p4.c] 62)) := H1.out.2.cell HX0.out (by decide) (by decide) (by decide)
 have k1 := box_cell HX1.out 1 _ rfl
 have hl1 := box_lt HX1.out
 have K2 := Lib.hid (mw_u16 B h g S1 r.t w1 H1.out.1 t1)
 clear K1 k0 hl0 hS1
 go_wp2_with fail
 refine K2.out.mono ?_
 rintro e w2 ⟨rfl, H2⟩
 generalize hS2 : prun (pby (numB r.t 2)) S1 = S2 at *
 have HS2 := Lib.hid hS2
 have HX2 : Hid (w2.heap[b]? = some (.cells #[.slice x.o.a x.o.n x.o.c, .int .u16 r.t, .int .u16 r.cl, .int .u32 r.tt, .slice x.d.p1.a x.d.p1.n x.d.p1.c, .slice x.d.p2.a x.d.p2.n x.d.p2.c, .slice x.d.p3.a x.d.p3.n x.d.p3.c, .slice x.d.p4.a x.d.p4.n x.d.p4.c] 62)) := H2.out.2.cell HX1.out (by decide) (by decide) (by decide)
 have k2 := box_cell HX2.out 2 _ rfl
 have hl2 := box_lt HX2.out
 have K3 := Lib.hid (mw_u16 B h g S2 r.cl w2 H2.out.1 t2)
 clear K2 k1 hl1 hS2
 go_wp2_with fail
 refine K3.out.mono ?_
 rintro e w3 ⟨rfl, H3⟩
 generalize hS3 : prun (pby (numB r.cl 2)) S2 = S3 at *
 have HS3 := Lib.hid hS3
 have HX3 : Hid (w3.heap[b]? = some (.cells #[.slice x.o.a x.o.n x.o.c, .int .u16 r.t, .int .u16 r.cl, .int .u32 r.tt, .slice x.d.p1.a x.d.p1.n x.d.p1.c, .slice x.d.p2.a x.d.p2.n x.d.p2.c, .slice x.d.p3.a x.d.p3.n x.d.p3.c, .slice x.d.p4.a x.d.p4.n x.d.p4.c] 62)) := H3.out.2.cell HX2.out (by decide) (by decide) (by decide)
 have k3 := box_cell HX3.out 3 _ rfl
 have hl3 := box_lt HX3.out
 have K4 := Lib.hid (put32_yes (r.tt : Int) w3 (by omega) (by omega))
 clear K3 k2 hl2 hS3
 go_wp2_with fail
 refine K4.out.mono ?_
 rintro e w4 ⟨rfl, hw4⟩
 have HB4 : Hid (Below w3.heap.size w3 w4) := by rw [hw4]; exact newq_below _ _
 have HR4 : Hid (Rd w4 (some ⟨w3.heap.size, 0, none⟩) (numB r.tt 4)) := by rw [hw4]; exact rd_four w3 r.tt t3
 clear hw4 K4 k3
 have K5 := Lib.hid (mw_bytes B h g S3 (some ⟨w3.heap.size, 0, none⟩) 4 4 (numB r.tt 4) w4 (H3.out.1.below HB4.out) HR4.out (numB_len _ _ (by omega)) (by simp) (by omega))
 go_wp2_with fail
 refine K5.out.mono ?_
 rintro e w5 ⟨rfl, H5⟩
 generalize hS4 : prun (pby (numB r.tt 4)) S3 = S4 at *
 have HS4 := Lib.hid hS4
 have HF5 : Hid (Fm B g w w5) := ((((HF0.out.trans H1.out.2).trans H2.out.2).trans H3.out.2).trans (Fm.of HB4.out H3.out.1.2.1 H3.out.1.g)).trans H5.out.2
 have HX5 : Hid (w5.heap[b]? = some (.cells #[.slice x.o.a x.o.n x.o.c, .int .u16 r.t, .int .u16 r.cl, .int .u32 r.tt, .slice x.d.p1.a x.d.p1.n x.d.p1.c, .slice x.d.p2.a x.d.p2.n x.d.p2.c, .slice x.d.p3.a x.d.p3.n x.d.p3.c, .slice x.d.p4.a x.d.p4.n x.d.p4.c] 62)) := H5.out.2.cell ((HB4.out.block b hl3).trans HX3.out) (by decide) (by decide) (by decide)
 have m5 := H5.out.1.ptr
 obtain ⟨m5a, m5b⟩ := m5
 have K6 := Lib.hid (mw_len B h g S4 w5 H5.out.1)
 clear K5 hS4 hl3
 go_wp2_with fail
 refine K6.out.mono ?_
 rintro e w5' ⟨q1, rfl, hw5', HL1⟩
 subst w5'
 have K7 := Lib.hid (mw_u16 B h g S4 0 w5 H5.out.1 (by omega))
 have b1 := HL1.out.1
 clear K6
 go_wp2_with fail
 refine K7.out.mono ?_
 rintro e w7 ⟨rfl, H7⟩
 generalize hS5 : prun (pby (numB 0 2)) S4 = S5 at *
 have HS5 := Lib.hid hS5
 have HX7 : Hid (w7.heap[b]? = some (.cells #[.slice x.o.a x.o.n x.o.c, .int .u16 r.t, .int .u16 r.cl, .int .u32 r.tt, .slice x.d.p1.a x.d.p1.n x.d.p1.c, .slice x.d.p2.a x.d.p2.n x.d.p2.c, .slice x.d.p3.a x.d.p3.n x.d.p3.c, .slice x.d.p4.a x.d.p4.n x.d.p4.c] 62)) := H7.out.2.cell HX5.out (by decide) (by decide) (by decide)
 obtain ⟨m7a, m7b⟩ := H7.out.1.ptr
 have K8 := Lib.hid (mw_len B h g S5 w7 H7.out.1)
 clear K7 hS5 m5a m5b
 go_wp2_with fail
 refine K8.out.mono ?_
 rintro e w7' ⟨q2, rfl, hw7', HL2⟩
 subst w7'
 have b2 := HL2.out.1
 have HB7 : Hid (Below B W0 w7) := (HB0.out.trans ((Below.refl _ _ |>.trans H1.out.2.below).trans (H2.out.2.below.trans (H3.out.2.below.trans ((HB4.out.mono H3.out.1.2.1).trans (H5.out.2.below.trans H7.out.2.below))))))
 have K9 := Lib.hid (KD.out S5 w7 H7.out.1 HB7.out)
 have k71 := box_cell HX7.out 1 _ rfl
 have k74 := box_cell HX7.out 4 _ rfl
 have k75 := box_cell HX7.out 5 _ rfl
 have k76 := box_cell HX7.out 6 _ rfl
 have k77 := box_cell HX7.out 7 _ rfl
 have hl7 := box_lt HX7.out
 clear K8 KD
 go_wp2_with fail
 refine K9.out.mono ?_
 rintro e w9 ⟨rfl, H9⟩
 generalize hS6 : prun (pdat r.t r.d) S5 = S6 at *
 have HS6 := Lib.hid hS6
 obtain ⟨m9a, m9b⟩ := H9.out.1.ptr
 have K10 := Lib.hid (mw_len B h g S6 w9 H9.out.1)
 clear K9 hS6 m7a m7b k71 k74 k75 k76 k77 hl7
 go_wp2_with fail
 refine K10.out.mono ?_
 rintro e w9' ⟨q3, rfl, hw9', HL3⟩
 subst w9'
 have b3 := HL3.out.1
 have HEND : Hid (prun (prec r) s = prun (psz (pdat r.t r.d)) S4) := (show _ = _ by rw [prec, prun_seq, prun_seq, prun_seq, prun_seq, HS1.out, HS2.out, HS3.out, HS4.out])
 have HF9 : Hid (Fm B g w w9) := (HF5.out.trans H7.out.2).trans H9.out.2
 have KS : Hid (Calls Tryz.prog 85 #[.pointer (some ⟨h, 0, none⟩), .int .i64 q1, .int .i64 ((q3 : Int) - (q2 : Int))] w9 fun e w' => e = .returned (.tuple #[]) /\ Hid (MW B w' h g (prun (psz (pdat r.t r.d)) S4) /\ Fm B g w9 w')) := by
   cases S4 with
   | none =>
     have e5 : S5 = none := HS5.out.symm
     have e6 : S6 = none := by rw [<- HS6.out, e5]; rfl
     have := H9.out.1
     rw [e6] at this
     exact mw_set_none B h g _ _ w9 this
   | some y =>
     obtain ⟨tx, pl⟩ := y
     have hy1 := HL1.out.2 _ rfl
     simp only at hy1
     rcases sz_run (pdat r.t r.d) tx pl with ⟨e1, e2⟩ | ⟨y, e1, e2, e3, e4⟩
     · have e6 : S6 = none := by rw [<- HS6.out, <- HS5.out]; exact e1
       have := H9.out.1
       rw [e6] at this
       rw [e2]
       exact mw_set_none B h g _ _ w9 this
     · have e6 : S6 = some y := by rw [<- HS6.out, <- HS5.out]; exact e1
       have e5 : S5 = some (tx ++ numB 0 2, pl) := by rw [<- HS5.out]; exact e4
       have hy3 := HL3.out.2 y e6
       have hy2 := HL2.out.2 _ e5
       have hnl : (numB 0 2).length = 2 := numB_len _ _ (by omega)
       simp only [List.length_append, hnl] at hy2
       have hm := H9.out.1
       rw [e6] at hm
       have hd : (q3 : Int) - (q2 : Int) = (((pdat r.t r.d pl (tx.length + 2)).1.length : Nat) : Int) := by omega
       rw [e3, hd, hy1]
       exact mw_set B h g (some y) tx.length _ w9 hm (by omega) (fun x hx => by cases hx; omega)
 clear K10 m9a m9b
 go_wp2_with fail
 refine KS.out.mono ?_
 rintro e w10 ⟨rfl, H10⟩
 go_wp2
 go_end0
 refine ⟨rfl, ?_, HF9.out.trans H10.out.2⟩
 rw [HEND.out]
 exact H10.out.1
end Go.Proofs.YtkjnbgekaifdfaaGreat
namespace Go.Proofs.YtkjnbgekaifdfaaGreat
open Go.ChangeShapes Go.WideShapes Go.ChangeAt Go.RowKit Go.Deep
theorem array14 {α : Type} {cs : Array α} (h : cs.size = 14) : ∃ v0 v1 v2 v3 v4 v5 v6 v7 v8 v9 v10 v11 v12 v13, cs = #[v0, v1, v2, v3, v4, v5, v6, v7, v8, v9, v10, v11, v12, v13] := by
 obtain ⟨l⟩ := cs
 match l, h with
 | [v0, v1, v2, v3, v4, v5, v6, v7, v8, v9, v10, v11, v12, v13], _ => exact ⟨v0, v1, v2, v3, v4, v5, v6, v7, v8, v9, v10, v11, v12, v13, rfl⟩
variable {H : Type} {enc : TypeId × Value -> H} {W : World}
theorem field_of {t : TypeId} {fs : Array Field} {fuel : Nat} {cs : List Value} {x : DataW H × List MemPlace} (ht : Tryz.prog.underlying t = some (.struct fs)) (hone : oneCellFields Tryz.prog fs = true) (h : DataW.trod enc Tryz.prog W 0 (fun _ => true) true fuel t cs = some x) (i : Nat) (f : Field) (v : Value) (hf : fs[i]? = some f) (hv : cs[i]? = some v) :
   ∃ n y, DataW.trod enc Tryz.prog W 0 (fun _ => true) true n f.type [v] = some y := by
 obtain ⟨xs, n, _, _, _, hlen, hall⟩ := DataW.trod_struct ht h
 obtain ⟨o, k⟩ := hone_of hone i f hf
 have := hall i f hf
 rw [o, k] at this
 have hi : i < fs.size := (Array.getElem?_eq_some_iff.1 hf).1
 have e : (cs.drop i).take 1 = [v] := by
   obtain ⟨hi2, e2⟩ := List.getElem?_eq_some_iff.1 hv
   rw [List.drop_eq_getElem_cons hi2, e2]; rfl
 rw [e] at this
 exact ⟨n, _, this.trans (List.getElem?_eq_getElem (by rw [hlen]; exact hi))⟩
theorem open_msg {base : Nat} {v : Value} {d : DataW H} {p : List MemPlace} (hv : Value.okWide Tryz.prog W .any base 26 v) (h : DataW.Trod enc Tryz.prog W 0 (fun _ => true) true 26 v d p) :
   ∃ (id : Nat) (rs : Bool) (op : Int) (aa tc rd ra ad cd : Bool) (rc : Int) (a1 a2 a3 a4 : Option Addr) (n1 n2 n3 n4 k1 k2 k3 k4 : Nat), v = .agg #[.int .u16 (id : Int), .bool rs, .int .i64 op, .bool aa, .bool tc, .bool rd, .bool ra, .bool ad, .bool cd, .int .i64 rc, .slice a1 n1 k1, .slice a2 n2 k2, .slice a3 n3 k3, .slice a4 n4 k4] /\ id < 65536 /\
     (∃ n y, DataW.trod enc Tryz.prog W 0 (fun _ => true) true n 23 [.slice a1 n1 k1] = some y) /\ (∃ n y, DataW.trod enc Tryz.prog W 0 (fun _ => true) true n 24 [.slice a2 n2 k2] = some y) /\ (∃ n y, DataW.trod enc Tryz.prog W 0 (fun _ => true) true n 24 [.slice a3 n3 k3] = some y) /\ (∃ n y, DataW.trod enc Tryz.prog W 0 (fun _ => true) true n 24 [.slice a4 n4 k4] = some y) /\
     (-9223372036854775808 <= op /\ op <= 9223372036854775807) /\ (-9223372036854775808 <= rc /\ rc <= 9223372036854775807) := by
 obtain ⟨cs, rfl, hsz⟩ := okWide_struct Tryz.underlying26 hv
 obtain ⟨v0, v1, v2, v3, v4, v5, v6, v7, v8, v9, v10, v11, v12, v13, rfl⟩ := array14 (hsz.trans (by kernel_rfl))
 obtain ⟨fuel, hf⟩ := h
 obtain ⟨m0, y0, t0⟩ := field_of Tryz.underlying26 (by kernel_rfl) hf 0 _ v0 rfl rfl
 obtain ⟨m1, y1, t1⟩ := field_of Tryz.underlying26 (by kernel_rfl) hf 1 _ v1 rfl rfl
 obtain ⟨m2, y2, t2⟩ := field_of Tryz.underlying26 (by kernel_rfl) hf 2 _ v2 rfl rfl
 obtain ⟨m3, y3, t3⟩ := field_of Tryz.underlying26 (by kernel_rfl) hf 3 _ v3 rfl rfl
 obtain ⟨m4, y4, t4⟩ := field_of Tryz.underlying26 (by kernel_rfl) hf 4 _ v4 rfl rfl
 obtain ⟨m5, y5, t5⟩ := field_of Tryz.underlying26 (by kernel_rfl) hf 5 _ v5 rfl rfl
 obtain ⟨m6, y6, t6⟩ := field_of Tryz.underlying26 (by kernel_rfl) hf 6 _ v6 rfl rfl
 obtain ⟨m7, y7, t7⟩ := field_of Tryz.underlying26 (by kernel_rfl) hf 7 _ v7 rfl rfl
 obtain ⟨m8, y8, t8⟩ := field_of Tryz.underlying26 (by kernel_rfl) hf 8 _ v8 rfl rfl
 obtain ⟨m9, y9, t9⟩ := field_of Tryz.underlying26 (by kernel_rfl) hf 9 _ v9 rfl rfl
 obtain ⟨m10, y10, t10⟩ := field_of Tryz.underlying26 (by kernel_rfl) hf 10 _ v10 rfl rfl
 obtain ⟨m11, y11, t11⟩ := field_of Tryz.underlying26 (by kernel_rfl) hf 11 _ v11 rfl rfl
 obtain ⟨m12, y12, t12⟩ := field_of Tryz.underlying26 (by kernel_rfl) hf 12 _ v12 rfl rfl
 obtain ⟨m13, y13, t13⟩ := field_of Tryz.underlying26 (by kernel_rfl) hf 13 _ v13 rfl rfl
 obtain ⟨x0, e0, _, w0⟩ := DataW.trod_int (t := 22) Tryz.underlying22 t0
 obtain ⟨x1, e1, _⟩ := DataW.trod_bool (t := 4) Tryz.underlying4 t1
 obtain ⟨x2, e2, _, w2⟩ := DataW.trod_int (t := 3) Tryz.underlying3 t2
 obtain ⟨x3, e3, _⟩ := DataW.trod_bool (t := 4) Tryz.underlying4 t3
 obtain ⟨x4, e4, _⟩ := DataW.trod_bool (t := 4) Tryz.underlying4 t4
 obtain ⟨x5, e5, _⟩ := DataW.trod_bool (t := 4) Tryz.underlying4 t5
 obtain ⟨x6, e6, _⟩ := DataW.trod_bool (t := 4) Tryz.underlying4 t6
 obtain ⟨x7, e7, _⟩ := DataW.trod_bool (t := 4) Tryz.underlying4 t7
 obtain ⟨x8, e8, _⟩ := DataW.trod_bool (t := 4) Tryz.underlying4 t8
 obtain ⟨x9, e9, _, w9⟩ := DataW.trod_int (t := 3) Tryz.underlying3 t9
 obtain ⟨s10, l10, c10, rfl⟩ := slice_of (t := 23) (e := 55) Tryz.underlying23 t10
 obtain ⟨s11, l11, c11, rfl⟩ := slice_of (t := 24) (e := 62) Tryz.underlying24 t11
 obtain ⟨s12, l12, c12, rfl⟩ := slice_of (t := 24) (e := 62) Tryz.underlying24 t12
 obtain ⟨s13, l13, c13, rfl⟩ := slice_of (t := 24) (e := 62) Tryz.underlying24 t13
 simp only [List.cons.injEq, and_true] at e0 e1 e2 e3 e4 e5 e6 e7 e8 e9
 subst e0 e1 e2 e3 e4 e5 e6 e7 e8 e9
 have b0 := bounds_u16 w0
 obtain ⟨id, rfl⟩ : ∃ n : Nat, x0 = (n : Int) := ⟨x0.toNat, by omega⟩
 exact ⟨id, x1, x2, x3, x4, x5, x6, x7, x8, x9, s10, s11, s12, s13, l10, l11, l12, l13, c10, c11, c12, c13, rfl, by omega, ⟨_, _, t10⟩, ⟨_, _, t11⟩, ⟨_, _, t12⟩, ⟨_, _, t13⟩, bounds_i64 w2, bounds_i64 w9⟩
end Go.Proofs.YtkjnbgekaifdfaaGreat
namespace Go.Proofs.YtkjnbgekaifdfaaGreat
open Go.ChangeShapes Go.WideShapes Go.ChangeAt Go.RowKit Go.Deep
variable {H : Type} {enc : TypeId × Value -> H} {W : World}
variable {H : Type} {enc : TypeId × Value -> H} {W : World}
theorem open_quest3 {fuel : Nat} {v0 v1 v2 : Value} {x : DataW H × List MemPlace} (hf : DataW.trod enc Tryz.prog W 0 (fun _ => true) true fuel 55 [v0, v1, v2] = some x) :
   ∃ (y : QA) (q : Qn), v0 = .slice y.s.a y.s.n y.s.c /\ v1 = .int .u16 (y.ty : Int) /\ v2 = .int .u16 (y.cl : Int) /\ QOk W y q := by
 obtain ⟨m0, y0, t0⟩ := field_of Tryz.underlying55 (by kernel_rfl) hf 0 _ v0 rfl rfl
 obtain ⟨m1, y1, t1⟩ := field_of Tryz.underlying55 (by kernel_rfl) hf 1 _ v1 rfl rfl
 obtain ⟨m2, y2, t2⟩ := field_of Tryz.underlying55 (by kernel_rfl) hf 2 _ v2 rfl rfl
 obtain ⟨a, n, c, rfl⟩ := slice_of (t := 51) (e := 9) Tryz.underlying51 t0
 obtain ⟨x1, e1, _, w1⟩ := DataW.trod_int (t := 52) Tryz.underlying52 t1
 obtain ⟨x2, e2, _, w2⟩ := DataW.trod_int (t := 53) Tryz.underlying53 t2
 simp only [List.cons.injEq, and_true] at e1 e2
 subst e1 e2
 have b1 := bounds_u16 w1
 have b2 := bounds_u16 w2
 obtain ⟨ss, hss⟩ := open_texts Tryz.underlying51 t0
 refine ⟨⟨⟨a, n, c⟩, x1.toNat, x2.toNat⟩, ⟨ss, x1.toNat, x2.toNat⟩, rfl, ?_, ?_, hss, rfl, rfl, by show x1.toNat < 65536; omega, by show x2.toNat < 65536; omega⟩
 · show Value.int .u16 x1 = .int .u16 (x1.toNat : Int)
   rw [Int.toNat_of_nonneg b1.1]
 · show Value.int .u16 x2 = .int .u16 (x2.toNat : Int)
   rw [Int.toNat_of_nonneg b2.1]
theorem cells50 : Tryz.prog.cellsOf 55 = 3 := by kernel_rfl
theorem open_questions {a : Option Addr} {len cap fuel : Nat} {x : DataW H × List MemPlace} (hf : DataW.trod enc Tryz.prog W 0 (fun _ => true) true fuel 23 [Value.slice a len cap] = some x) : ∃ qs, QsRd W ⟨a, len, cap⟩ qs := by
 rcases DataW.trod_slice Tryz.underlying23 hf with ⟨hcs, _⟩ | ⟨x, l, c, elems, rest, n, _, hcs, _, _, hl, hm, hel, hcell, _⟩
 · simp at hcs
   obtain ⟨rfl, rfl, rfl⟩ := hcs
   exact ⟨[], .inl rfl, rfl, ⟨Nat.le_refl _, Nat.zero_le _⟩, fun _ => rfl⟩
 · simp at hcs
   obtain ⟨rfl, rfl, rfl⟩ := hcs
   rw [cells50] at hcell
   have hex : ∀ i, i < len -> ∃ q, ∃ y : QA, W.cell? ((x.add (i * 3)).add 0) = some (.slice y.s.a y.s.n y.s.c) /\ W.cell? ((x.add (i * 3)).add 1) = some (.int .u16 (y.ty : Int)) /\ W.cell? ((x.add (i * 3)).add 2) = some (.int .u16 (y.cl : Int)) /\ QOk W y q := by
     intro i hi
     have h1 := hcell i hi
     rw [List.getElem?_eq_getElem (by omega)] at h1
     rw [Option.bind_eq_some_iff] at h1
     obtain ⟨cs, h2, h3⟩ := h1
     obtain ⟨_, hlen, hc⟩ := World.cells?_some h2
     match cs, hlen with
     | [v0, v1, v2], _ =>
       obtain ⟨y, q, rfl, rfl, rfl, ok⟩ := open_quest3 h3
       exact ⟨q, y, (hc 0 (by omega)).trans rfl, (hc 1 (by omega)).trans rfl, (hc 2 (by omega)).trans rfl, ok⟩
   obtain ⟨qs, hlen, hqs⟩ := list_of len _ hex
   refine ⟨qs, ?_, hlen, ⟨hl, by simp only [maxLen] at hm; exact hm⟩, by simp⟩
   by_cases h0 : len = 0
   · left; exact List.eq_nil_of_length_eq_zero (by omega)
   · right
     obtain ⟨b, off, spot⟩ := x
     obtain ⟨y0, hc0, _⟩ := hqs 0 (by omega)
     have hspot : spot = none := by simpa [Addr.add] using World.cell?_spot hc0
     subst hspot
     have hlt : b < W.heap.size := by
       have := World.block_lt_of_cell? W _ hc0
       simpa [Addr.add] using this
     refine ⟨b, off, rfl, hlt, fun i hi => ?_⟩
     obtain ⟨y, e1, e2, e3, ok⟩ := hqs i hi
     refine ⟨y, ?_, ?_, ?_, ok⟩
     · rw [Addr.add_lit, Addr.add_lit] at e1; exact e1
     · rw [Addr.add_lit, Addr.add_lit] at e2; exact e2
     · rw [Addr.add_lit, Addr.add_lit] at e3; exact e3
end Go.Proofs.YtkjnbgekaifdfaaGreat
namespace Go.Proofs.YtkjnbgekaifdfaaGreat
open Go.ChangeShapes Go.WideShapes Go.ChangeAt Go.RowKit Go.Maps
theorem mbox_cells {H : Hd} {x : MA} {W : World} {b : Nat} (h : W.heap[b]? = some (.cells #[.int .u16 H.id, .bool H.rs, .int .i64 H.op, .bool H.aa, .bool H.tc, .bool H.rd, .bool H.ra, .bool H.ad, .bool H.cd, .int .i64 H.rc, .slice x.q.a x.q.n x.q.c, .slice x.l1.a x.l1.n x.l1.c, .slice x.l2.a x.l2.n x.l2.c, .slice x.l3.a x.l3.n x.l3.c] 26)) : (W.cell? ⟨b, 0, none⟩ = some (.int .u16 H.id) /\ W.cell? ⟨b, 1, none⟩ = some (.bool H.rs) /\ W.cell? ⟨b, 2, none⟩ = some (.int .i64 H.op) /\ W.cell? ⟨b, 3, none⟩ = some (.bool H.aa) /\ W.cell? ⟨b, 4, none⟩ = some (.bool H.tc) /\ W.cell? ⟨b, 5, none⟩ = some (.bool H.rd) /\ W.cell? ⟨b, 6, none⟩ = some (.bool H.ra) /\ W.cell? ⟨b, 7, none⟩ = some (.bool H.ad) /\ W.cell? ⟨b, 8, none⟩ = some (.bool H.cd) /\ W.cell? ⟨b, 9, none⟩ = some (.int .i64 H.rc) /\ W.cell? ⟨b, 10, none⟩ = some (.slice x.q.a x.q.n x.q.c) /\ W.cell? ⟨b, 11, none⟩ = some (.slice x.l1.a x.l1.n x.l1.c) /\ W.cell? ⟨b, 12, none⟩ = some (.slice x.l2.a x.l2.n x.l2.c) /\ W.cell? ⟨b, 13, none⟩ = some (.slice x.l3.a x.l3.n x.l3.c)) :=
 ⟨box_cell h 0 _ rfl, box_cell h 1 _ rfl, box_cell h 2 _ rfl, box_cell h 3 _ rfl, box_cell h 4 _ rfl, box_cell h 5 _ rfl, box_cell h 6 _ rfl, box_cell h 7 _ rfl, box_cell h 8 _ rfl, box_cell h 9 _ rfl, box_cell h 10 _ rfl, box_cell h 11 _ rfl, box_cell h 12 _ rfl, box_cell h 13 _ rfl⟩
def rowC (x : MA) (k : Nat) : Array Value := #[.int .i64 (x.q.n : Int), .int .i64 (if 0 < k then (x.l1.n : Int) else 0), .int .i64 (if 1 < k then (x.l2.n : Int) else 0), .int .i64 (if 2 < k then (x.l3.n : Int) else 0)]
theorem rowC_step (x : MA) (k : Nat) (hk : k < 3) : (rowC x k).setIfInBounds (1 + k) (.int .i64 ((nth3 x k).n : Int)) = rowC x (k + 1) := by
 have : k = 0 ∨ k = 1 ∨ k = 2 := by omega
 rcases this with rfl | rfl | rfl <;> simp [rowC, nth3]
theorem rowC_at (x : MA) (k : Nat) (hk : k < 3) : ∃ v, (rowC x k)[1 + k]? = some (.int .i64 v) := by
 have : k = 0 ∨ k = 1 ∨ k = 2 := by omega
 rcases this with rfl | rfl | rfl <;> simp [rowC]
theorem three_below (w : World) (a b c : Obj) : Below w.heap.size w (((w.alloc a).alloc b).alloc c) /\ (((w.alloc a).alloc b).alloc c).heap[w.heap.size]? = some a /\ (((w.alloc a).alloc b).alloc c).heap[w.heap.size + 1]? = some b /\ (((w.alloc a).alloc b).alloc c).heap[w.heap.size + 1 + 1]? = some c /\ (((w.alloc a).alloc b).alloc c).heap.size = w.heap.size + 1 + 1 + 1 := by
 have s1 : (w.alloc a).heap.size = w.heap.size + 1 := by simp
 have s2 : ((w.alloc a).alloc b).heap.size = w.heap.size + 1 + 1 := by simp
 have n1 := heap_alloc_new w a
 have n2 := heap_alloc_new (w.alloc a) b
 have n3 := heap_alloc_new ((w.alloc a).alloc b) c
 rw [s1] at n2
 rw [s2] at n3
 refine ⟨(((Below.refl _ w).alloc (Nat.le_refl _) _).alloc (by omega) _).alloc (by omega) _, ?_, ?_, n3, by simp⟩
 · rw [Below.heap_alloc _ _ _ (by omega), Below.heap_alloc _ _ _ (by omega)]; exact n1
 · rw [Below.heap_alloc _ _ _ (by omega)]; exact n2
set_option maxHeartbeats 1000000 in
theorem counts_any (H : Hd) (x : MA) (w : World) : Calls Tryz.prog 51 #[.agg #[.int .u16 H.id, .bool H.rs, .int .i64 H.op, .bool H.aa, .bool H.tc, .bool H.rd, .bool H.ra, .bool H.ad, .bool H.cd, .int .i64 H.rc, .slice x.q.a x.q.n x.q.c, .slice x.l1.a x.l1.n x.l1.c, .slice x.l2.a x.l2.n x.l2.c, .slice x.l3.a x.l3.n x.l3.c]] w fun e w' => e = .returned (.agg #[.int .i64 (x.q.n : Int), .int .i64 (x.l1.n : Int), .int .i64 (x.l2.n : Int), .int .i64 (x.l3.n : Int)]) /\ Hid (Below w.heap.size w w') := by
 have KS : Hid (∀ W, Calls Tryz.prog 43 #[.pointer (some ⟨w.heap.size, 0, none⟩)] W fun e w' => e = .returned (.agg #[.pointer (some ⟨w.heap.size, 11, none⟩), .pointer (some ⟨w.heap.size, 12, none⟩), .pointer (some ⟨w.heap.size, 13, none⟩)]) /\ Hid (Below W.heap.size W w')) := fun W => sections_any w.heap.size W
 obtain ⟨f1, f2, f3, f4, f5⟩ := three_below w (.cells #[.int .u16 H.id, .bool H.rs, .int .i64 H.op, .bool H.aa, .bool H.tc, .bool H.rd, .bool H.ra, .bool H.ad, .bool H.cd, .int .i64 H.rc, .slice x.q.a x.q.n x.q.c, .slice x.l1.a x.l1.n x.l1.c, .slice x.l2.a x.l2.n x.l2.c, .slice x.l3.a x.l3.n x.l3.c] 26) (.cells #[.int .i64 0, .int .i64 0, .int .i64 0, .int .i64 0] 74) (.cells #[.int .i64 (x.q.n : Int), .int .i64 0, .int .i64 0, .int .i64 0] 74)
 have HF : Hid (Below w.heap.size w (((w.alloc (.cells #[.int .u16 H.id, .bool H.rs, .int .i64 H.op, .bool H.aa, .bool H.tc, .bool H.rd, .bool H.ra, .bool H.ad, .bool H.cd, .int .i64 H.rc, .slice x.q.a x.q.n x.q.c, .slice x.l1.a x.l1.n x.l1.c, .slice x.l2.a x.l2.n x.l2.c, .slice x.l3.a x.l3.n x.l3.c] 26)).alloc (.cells #[.int .i64 0, .int .i64 0, .int .i64 0, .int .i64 0] 74)).alloc (.cells #[.int .i64 (x.q.n : Int), .int .i64 0, .int .i64 0, .int .i64 0] 74)) /\ _ /\ _ /\ _ /\ _) := ⟨f1, f2, f3, f4, f5⟩
 clear f1 f2 f3 f4 f5
 go_enter Tryz.func51, Tryz.ntmps51
 go_wp2_with fail
 refine (KS.out _).mono ?_
 rintro e w1 ⟨rfl, H1⟩
 obtain ⟨b, hb⟩ : ∃ b, b = w.heap.size := ⟨_, rfl⟩
 have HB : Hid (w1.heap[b]? = some (.cells #[.int .u16 H.id, .bool H.rs, .int .i64 H.op, .bool H.aa, .bool H.tc, .bool H.rd, .bool H.ra, .bool H.ad, .bool H.cd, .int .i64 H.rc, .slice x.q.a x.q.n x.q.c, .slice x.l1.a x.l1.n x.l1.c, .slice x.l2.a x.l2.n x.l2.c, .slice x.l3.a x.l3.n x.l3.c] 26) /\ w1.heap[b + 1]? = some (.cells #[.int .i64 0, .int .i64 0, .int .i64 0, .int .i64 0] 74) /\ w1.heap[b + 1 + 1]? = some (.cells (rowC x 0) 74) /\ Below w.heap.size w w1) := by
   have hs := HF.out.2.2.2.2
   rw [hb]
   exact ⟨(H1.out.block _ (by omega)).trans HF.out.2.1, (H1.out.block _ (by omega)).trans HF.out.2.2.1, (H1.out.block _ (by omega)).trans HF.out.2.2.2.1, HF.out.1.trans (H1.out.mono HF.out.1.size)⟩
 have HBW : Hid (b = w.heap.size) := hb
 rw [<- hb]
 clear HF H1 KS hb
 go_wp2_with fail
 go_loopw [11] (fun z wr => ∃ k : Nat, k <= 3 /\ z = .int .i64 k /\ Hid (wr.heap[b]? = some (.cells #[.int .u16 H.id, .bool H.rs, .int .i64 H.op, .bool H.aa, .bool H.tc, .bool H.rd, .bool H.ra, .bool H.ad, .bool H.cd, .int .i64 H.rc, .slice x.q.a x.q.n x.q.c, .slice x.l1.a x.l1.n x.l1.c, .slice x.l2.a x.l2.n x.l2.c, .slice x.l3.a x.l3.n x.l3.c] 26) /\ wr.heap[b + 1]? = some (.cells #[.int .i64 0, .int .i64 0, .int .i64 0, .int .i64 0] 74) /\ wr.heap[b + 1 + 1]? = some (.cells (rowC x k) 74) /\ Below w.heap.size w wr)) (fun z _ => 3 - (intOf z).toNat)
 case atStart => exact ⟨0, by omega, rfl, HB.out⟩
 case round =>
   obtain ⟨k, hk, rfl, HK⟩ := hrel
   by_cases hlt3 : k < 3
   · have h3 : (k : Int) < 3 := by omega
     have hix := ixS b k hlt3
     have hc := mbox_list HK.out.1 k hlt3
     have hlb := box_lt HK.out.1
     obtain ⟨v0, hv0⟩ := rowC_at x k hlt3
     have hc2 : wr.cell? ⟨b + 1 + 1, 1 + k, none⟩ = some (.int .i64 v0) := by simp only [World.cell?, HK.out.2.2.1]; exact hv0
     have hfz : wr.frozen? ⟨b + 1 + 1, 1 + k, none⟩ = false := box_frozen HK.out.2.2.1 _
     have hlb2 := box_lt HK.out.2.2.1
     have HST := Lib.hid (rowC_step x k hlt3)
     generalize nth3 x k = s at *
     go_wp2
     have hgr := grown_set wr (b + 1 + 1) (1 + k) (.int .i64 (s.n : Int))
     refine ⟨⟨k + 1, by omega, by go_num, (hgr.block b hlb (by simp; omega)).trans HK.out.1, (hgr.block (b + 1) (box_lt HK.out.2.1) (by simp)).trans HK.out.2.1, ?_, HK.out.2.2.2.setCell (by have := HBW.out; simp only; omega) _⟩, by simp [intOf]; omega⟩
     rw [<- HST.out]
     exact box_set HK.out.2.2.1 _ _
   · obtain rfl : k = 3 := by omega
     have e1 := box_lt HK.out.2.1
     have e2 := box_lt HK.out.2.2.1
     have r0 : wr.cell? ⟨b + 1 + 1, 0, none⟩ = some (.int .i64 (x.q.n : Int)) := box_cell HK.out.2.2.1 0 _ rfl
     have r1 : wr.cell? ⟨b + 1 + 1, 1, none⟩ = some (.int .i64 (x.l1.n : Int)) := box_cell HK.out.2.2.1 1 _ rfl
     have r2 : wr.cell? ⟨b + 1 + 1, 2, none⟩ = some (.int .i64 (x.l2.n : Int)) := box_cell HK.out.2.2.1 2 _ rfl
     have r3 : wr.cell? ⟨b + 1 + 1, 3, none⟩ = some (.int .i64 (x.l3.n : Int)) := box_cell HK.out.2.2.1 3 _ rfl
     have z0 : wr.cell? ⟨b + 1, 0, none⟩ = some (.int .i64 0) := box_cell HK.out.2.1 0 _ rfl
     have z1 : wr.cell? ⟨b + 1, 1, none⟩ = some (.int .i64 0) := box_cell HK.out.2.1 1 _ rfl
     have z2 : wr.cell? ⟨b + 1, 2, none⟩ = some (.int .i64 0) := box_cell HK.out.2.1 2 _ rfl
     have z3 : wr.cell? ⟨b + 1, 3, none⟩ = some (.int .i64 0) := box_cell HK.out.2.1 3 _ rfl
     have y0 := box_frozen HK.out.2.1 0
     have y1 := box_frozen HK.out.2.1 1
     have y2 := box_frozen HK.out.2.1 2
     have y3 := box_frozen HK.out.2.1 3
     go_wp2
     have q3 := box_set (box_set (box_set (box_set HK.out.2.1 0 (.int .i64 (x.q.n : Int))) 1 (.int .i64 (x.l1.n : Int))) 2 (.int .i64 (x.l2.n : Int))) 3 (.int .i64 (x.l3.n : Int))
     have hbw := HBW.out
     have hbel := (((HK.out.2.2.2.setCell (p := ⟨b + 1, 0, none⟩) (by simp only; omega) (.int .i64 (x.q.n : Int))).setCell (p := ⟨b + 1, 1, none⟩) (by simp only; omega) (.int .i64 (x.l1.n : Int))).setCell (p := ⟨b + 1, 2, none⟩) (by simp only; omega) (.int .i64 (x.l2.n : Int))).setCell (p := ⟨b + 1, 3, none⟩) (by simp only; omega) (.int .i64 (x.l3.n : Int))
     generalize (((wr.setCell ⟨b + 1, 0, none⟩ (.int .i64 (x.q.n : Int))).setCell ⟨b + 1, 1, none⟩ (.int .i64 (x.l1.n : Int))).setCell ⟨b + 1, 2, none⟩ (.int .i64 (x.l2.n : Int))).setCell ⟨b + 1, 3, none⟩ (.int .i64 (x.l3.n : Int)) = W4 at *
     have y0 := box_cell q3 0 _ rfl
     have y1 := box_cell q3 1 _ rfl
     have y2 := box_cell q3 2 _ rfl
     have y3 := box_cell q3 3 _ rfl
     have ylt := box_lt q3
     refine bodyPost_ret (v := .agg #[.int .i64 (x.q.n : Int), .int .i64 (x.l1.n : Int), .int .i64 (x.l2.n : Int), .int .i64 (x.l3.n : Int)]) ?_ rfl ⟨rfl, hbel⟩
     simp [results, Tryz.results51, go_sem, y0, y1, y2, y3, ylt]
end Go.Proofs.YtkjnbgekaifdfaaGreat
namespace Go.Proofs.YtkjnbgekaifdfaaGreat
open Go.ChangeShapes Go.WideShapes Go.ChangeAt Go.RowKit Go.Maps
theorem all_rd (B g n : Nat) (tx : List Int) (pl : List (ByteArray × Nat)) (w : World) (h : Wr B w g tx pl) (hn : tx.length = n) (ht : n <= 100000) :
   Calls Tryz.prog 56 #[.pointer (some ⟨g, 0, none⟩)] w fun e w' => ∃ a' c', e = .returned (.slice a' n c') /\ Hid (Rd w' a' tx /\ n <= c' /\ c' <= 9223372036854775807 /\ Below w.heap.size w w') := by
 subst hn
 refine (all_any B g tx pl w h ht).mono ?_
 rintro e w' ⟨v, ys, rfl, H⟩
 obtain ⟨ao, rfl, hA⟩ := H.out.1.addr
 have h1 := hA.rdTake tx.length
 rw [H.out.2.1] at h1
 exact ⟨ao, ys.length, rfl, h1, hA.le.1, by have := hA.le.2; unfold maxLen at this; omega, H.out.2.2⟩
end Go.Proofs.YtkjnbgekaifdfaaGreat
