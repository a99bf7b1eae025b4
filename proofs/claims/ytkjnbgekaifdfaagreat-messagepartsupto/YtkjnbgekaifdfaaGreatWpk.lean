/- Texts laid together, in parts: Mlr Mls0 Mpx Mlw Mly Mlz Mlt. -/
import Derived.Test.YtkjnbgekaifdfaaGreatWpj
import Derived.Deep.CutBlock
set_option maxRecDepth 100000
set_option linter.unusedVariables false
set_option linter.unusedSimpArgs false
namespace Go.Proofs.YtkjnbgekaifdfaaGreat
open Go.ChangeShapes Go.WideShapes Go.ChangeAt Go.RowKit Go.Maps
structure FewM (m : Mg) : Prop where
 q : m.qs.length <= 20
 qn : ∀ q ∈ m.qs, q.nm.length <= 130
 l : (m.l1 ++ m.l2 ++ m.l3).length <= 515
 r : ∀ r ∈ m.l1 ++ m.l2 ++ m.l3, r.ow.length <= 130 /\ Small r.d
def LmP (m : Mg) (w : World) (e : Ending) (w' : World) : Prop := ∃ b, e = .returned (.bool b) /\ Hid ((b = false -> FewM m) /\ Below w.heap.size w w')
theorem lmp_yes {m : Mg} {w w' : World} (h : Below w.heap.size w w') : LmP m w (.returned (.bool true)) w' := ⟨true, rfl, fun h => (by cases h), h⟩
theorem lmp_no {m : Mg} {w w' : World} (h1 : FewM m) (h : Below w.heap.size w w') : LmP m w (.returned (.bool false)) w' := ⟨false, rfl, fun _ => h1, h⟩
theorem allp_step {α : Type} {P : α -> Prop} {l : List α} {k : Nat} (hk : k < l.length) (h : ∀ r ∈ l.take k, P r) (h1 : P l[k]) : ∀ r ∈ l.take (k + 1), P r := by
 rw [List.take_succ_eq_append_getElem hk]
 intro r hr
 rcases List.mem_append.1 hr with hr | hr
 · exact h r hr
 · rw [List.mem_singleton.1 hr]; exact h1
set_option maxHeartbeats 4000000 in
theorem largeM (H : Hd) (x : MA) (m : Mg) (w : World) (hm : MRd w H x m) (ht : x.l1.n + x.l2.n + x.l3.n <= 2000000) : Calls Tryz.prog 8 #[.agg #[.int .u16 H.id, .bool H.rs, .int .i64 H.op, .bool H.aa, .bool H.tc, .bool H.rd, .bool H.ra, .bool H.ad, .bool H.cd, .int .i64 H.rc, .slice x.q.a x.q.n x.q.c, .slice x.l1.a x.l1.n x.l1.c, .slice x.l2.a x.l2.n x.l2.c, .slice x.l3.a x.l3.n x.l3.c]] w (LmP m w) := by
 have hb0 := newq_below w (.cells #[.int .u16 H.id, .bool H.rs, .int .i64 H.op, .bool H.aa, .bool H.tc, .bool H.rd, .bool H.ra, .bool H.ad, .bool H.cd, .int .i64 H.rc, .slice x.q.a x.q.n x.q.c, .slice x.l1.a x.l1.n x.l1.c, .slice x.l2.a x.l2.n x.l2.c, .slice x.l3.a x.l3.n x.l3.c] 26)
 have hbx : (w.alloc (.cells #[.int .u16 H.id, .bool H.rs, .int .i64 H.op, .bool H.aa, .bool H.tc, .bool H.rd, .bool H.ra, .bool H.ad, .bool H.cd, .int .i64 H.rc, .slice x.q.a x.q.n x.q.c, .slice x.l1.a x.l1.n x.l1.c, .slice x.l2.a x.l2.n x.l2.c, .slice x.l3.a x.l3.n x.l3.c] 26)).heap[w.heap.size]? = some (.cells #[.int .u16 H.id, .bool H.rs, .int .i64 H.op, .bool H.aa, .bool H.tc, .bool H.rd, .bool H.ra, .bool H.ad, .bool H.cd, .int .i64 H.rc, .slice x.q.a x.q.n x.q.c, .slice x.l1.a x.l1.n x.l1.c, .slice x.l2.a x.l2.n x.l2.c, .slice x.l3.a x.l3.n x.l3.c] 26) := heap_alloc_new _ _
 have K32 := Lib.hid (all32 H x m _ (hm.below hb0) ht)
 have HQ : Hid (QsRd w x.q m.qs) := hm.q
 have HX := Lib.hid hbx
 have HB := Lib.hid hb0
 have hqc := hm.q.cap
 have hql := hm.q.len
 clear hbx hb0 hm
 obtain ⟨⟨qa, qn, qc⟩, ⟨a1, n1, c1⟩, ⟨a2, n2, c2⟩, ⟨a3, n3, c3⟩⟩ := x
 obtain ⟨L, hL⟩ : ∃ L, L = m.l1 ++ m.l2 ++ m.l3 := ⟨_, rfl⟩
 have HL : Hid (L = m.l1 ++ m.l2 ++ m.l3) := hL
 rw [<- hL] at K32
 obtain ⟨qs, hqs⟩ : ∃ qs, qs = m.qs := ⟨_, rfl⟩
 have HQS : Hid (qs = m.qs) := hqs
 rw [<- hqs] at HQ hql
 clear hL hqs
 simp only at *
 go_enter Tryz.func8, Tryz.ntmps8
 go_wp2_with fail
 generalize w.alloc (.cells #[.int .u16 H.id, .bool H.rs, .int .i64 H.op, .bool H.aa, .bool H.tc, .bool H.rd, .bool H.ra, .bool H.ad, .bool H.cd, .int .i64 H.rc, .slice qa qn qc, .slice a1 n1 c1, .slice a2 n2 c2, .slice a3 n3 c3] 26) = w0 at *
 obtain ⟨b, hbb⟩ : ∃ b, b = w.heap.size := ⟨_, rfl⟩
 rw [<- hbb] at HX ⊢
 clear hbb
 have k0 := box_cell HX.out 0 _ rfl; have k1 := box_cell HX.out 1 _ rfl; have k2 := box_cell HX.out 2 _ rfl; have k3 := box_cell HX.out 3 _ rfl; have k4 := box_cell HX.out 4 _ rfl; have k5 := box_cell HX.out 5 _ rfl; have k6 := box_cell HX.out 6 _ rfl; have k7 := box_cell HX.out 7 _ rfl; have k8 := box_cell HX.out 8 _ rfl; have k9 := box_cell HX.out 9 _ rfl; have k10 := box_cell HX.out 10 _ rfl; have k11 := box_cell HX.out 11 _ rfl; have k12 := box_cell HX.out 12 _ rfl; have k13 := box_cell HX.out 13 _ rfl
 have lb := box_lt HX.out
 go_wp2_with fail
 refine K32.out.mono ?_
 rintro e w1 ⟨⟨ta, tn, tc⟩, rfl, H1⟩
 have HB1 : Hid (Below w.heap.size w w1) := HB.out.trans (H1.out.2.mono HB.out.size)
 have HT1 : Hid (LRd w1 ⟨ta, tn, tc⟩ L) := H1.out.1
 have htl : L.length = tn := H1.out.1.len
 have htc := H1.out.1.cap
 have hx1 := (H1.out.2.block b (box_lt HX.out)).trans HX.out
 clear k0 k1 k2 k3 k4 k5 k6 k7 k8 k9 k10 k11 k12 k13 lb K32 H1
 have k10 := box_cell hx1 10 _ rfl
 have lb := box_lt hx1
 have HX1 := Lib.hid hx1
 clear hx1
 by_cases g1 : (20 : Int) < (qn : Int)
 · go_wp2
   go_ret
   exact lmp_yes HB1.out
 by_cases g2 : (515 : Int) < (tn : Int)
 · by_cases g3 : (40 : Int) < (tn : Int)
   · have g4 : ¬ (tn : Int) <= 512 := by omega
     go_wp2
     go_ret
     exact lmp_yes HB1.out
   · omega
 by_cases g3 : (40 : Int) < (tn : Int) /\ (tn : Int) <= 512
 · have g4 := g3.1
   have g5 := g3.2
   clear g3
   go_wp2
   go_ret
   exact lmp_yes HB1.out
 have HG : Hid (qs.length <= 20 /\ L.length <= 515) := ⟨by omega, by omega⟩
 by_cases g4 : (40 : Int) < (tn : Int)
 · have g5 : ¬ (tn : Int) <= 512 := fun h => g3 ⟨g4, h⟩
   clear g3
   go_wp2_with fail
   go_loop [4] (fun y => ∃ k : Nat, k <= qn /\ y = .int .i64 (k : Int) /\ Hid (∀ q ∈ qs.take k, q.nm.length <= 130)) (fun y => qn - (intOf y).toNat)
   case atStart => exact ⟨0, Nat.zero_le _, rfl, fun q hq => (by simp at hq)⟩
   case round =>
     obtain ⟨k, hk, rfl, HK⟩ := hrel
     by_cases hlt : k < qn
     · have hlt' : (k : Int) < (qn : Int) := by omega
       have hkq : k < qs.length := by omega
       obtain ⟨qb, qo, f1, f2, y, f3, f4, f5, f6⟩ := (HQ.out.below HB1.out).at k hkq
       have hny : qs[k].nm.length = y.s.n := f6.rd.len
       have HNY := Lib.hid hny
       simp only at f1
       subst f1
       clear f4 f5 f6 hny
       obtain ⟨⟨ya, yn, yc⟩, yt, ycl⟩ := y
       simp only at *
       by_cases g9 : (130 : Int) < (yn : Int)
       · go_wp2
         go_ret
         exact lmp_yes HB1.out
       · go_wp2
         go_round
         case rel => exact ⟨k + 1, by omega, by go_num, allp_step hkq HK.out (by rw [HNY.out]; omega)⟩
         case measure => simp [intOf]; omega
     · have hge : (qn : Int) <= (k : Int) := by omega
       have HKQ : Hid (∀ q ∈ qs, q.nm.length <= 130) := by
         have := HK.out
         rw [List.take_of_length_le (by omega)] at this
         exact this
       clear HK
       go_wp2_with fail
       clear k10 lb
       go_loopw [5] (fun y wr => ∃ j : Nat, j <= tn /\ y = .int .i64 (j : Int) /\ Hid (∀ r ∈ L.take j, r.ow.length <= 130 /\ Small r.d) /\ Hid (Below w1.heap.size w1 wr)) (fun y _ => tn - (intOf y).toNat)
       case atStart => exact ⟨0, Nat.zero_le _, rfl, fun q hq => (by simp at hq), Below.refl _ _⟩
       case round =>
         obtain ⟨j, hj, rfl, HJ, HBJ⟩ := hrel
         by_cases hjl : j < tn
         · have hjl' : (j : Int) < (tn : Int) := by omega
           have hjL : j < L.length := by omega
           obtain ⟨rb, ro, e0, hrb, xx, he, hx⟩ := (HT1.out.below HBJ.out).rd.at j hjL
           simp only at e0
           subst e0
           have KD := Lib.hid (large_any xx.d L[j].d wr hx.2)
           have hon : L[j].ow.length = xx.o.n := hx.1.len
           have HON := Lib.hid hon
           have d0 := he 0 (by omega)
           have d4 := he 4 (by omega)
           have d5 := he 5 (by omega)
           have d6 := he 6 (by omega)
           have d7 := he 7 (by omega)
           clear hx he hon
           obtain ⟨⟨xa, xn, xc⟩, ⟨⟨xa1, xn1, xc1⟩, ⟨xa2, xn2, xc2⟩, ⟨xa3, xn3, xc3⟩, ⟨xa4, xn4, xc4⟩⟩⟩ := xx
           simp only [recCells, Nat.add_zero, List.getElem?_cons_zero, List.getElem?_cons_succ] at d0 d4 d5 d6 d7 KD HON
           by_cases g9 : (130 : Int) < (xn : Int)
           · go_wp2
             go_ret
             exact lmp_yes (HB1.out.trans (HBJ.out.mono HB1.out.size))
           · go_wp2_with fail
             refine KD.out.mono ?_
             rintro e w5 ⟨bb, rfl, hbb, hb5⟩
             have HB5 : Hid (Below w1.heap.size w1 w5) := HBJ.out.trans (hb5.mono HBJ.out.size)
             have HSM := Lib.hid hbb
             clear hb5 hbb KD d0 d4 d5 d6 d7
             cases bb
             · have hN9 : ∀ r ∈ L.take (j + 1), r.ow.length <= 130 /\ Small r.d := @allp_step Rec (fun r => r.ow.length <= 130 /\ Small r.d) L j hjL HJ.out ⟨by rw [HON.out]; omega, HSM.out rfl⟩
               have HN := Lib.hid hN9
               clear hN9
               go_wp2
               go_round
               case rel => exact ⟨j + 1, by omega, by go_num, HN, HB5⟩
               case measure => simp [intOf]; omega
             · go_wp2
               go_ret
               exact lmp_yes (HB1.out.trans (HB5.out.mono HB1.out.size))
         · have hjge : (tn : Int) <= (j : Int) := by omega
           have HJL : Hid (∀ r ∈ L, r.ow.length <= 130 /\ Small r.d) := by
             have := HJ.out
             rw [List.take_of_length_le (by omega)] at this
             exact this
           go_wp2
           go_ret
           refine lmp_no ⟨by rw [<- HQS.out]; exact HG.out.1, by rw [<- HQS.out]; exact HKQ.out, by rw [<- HL.out]; exact HG.out.2, by rw [<- HL.out]; exact HJL.out⟩ (HB1.out.trans (HBJ.out.mono HB1.out.size))
 · clear g3
   go_wp2_with fail
   go_loop [4] (fun y => ∃ k : Nat, k <= qn /\ y = .int .i64 (k : Int) /\ Hid (∀ q ∈ qs.take k, q.nm.length <= 130)) (fun y => qn - (intOf y).toNat)
   case atStart => exact ⟨0, Nat.zero_le _, rfl, fun q hq => (by simp at hq)⟩
   case round =>
     obtain ⟨k, hk, rfl, HK⟩ := hrel
     by_cases hlt : k < qn
     · have hlt' : (k : Int) < (qn : Int) := by omega
       have hkq : k < qs.length := by omega
       obtain ⟨qb, qo, f1, f2, y, f3, f4, f5, f6⟩ := (HQ.out.below HB1.out).at k hkq
       have hny : qs[k].nm.length = y.s.n := f6.rd.len
       have HNY := Lib.hid hny
       simp only at f1
       subst f1
       clear f4 f5 f6 hny
       obtain ⟨⟨ya, yn, yc⟩, yt, ycl⟩ := y
       simp only at *
       by_cases g9 : (130 : Int) < (yn : Int)
       · go_wp2
         go_ret
         exact lmp_yes HB1.out
       · go_wp2
         go_round
         case rel => exact ⟨k + 1, by omega, by go_num, allp_step hkq HK.out (by rw [HNY.out]; omega)⟩
         case measure => simp [intOf]; omega
     · have hge : (qn : Int) <= (k : Int) := by omega
       have HKQ : Hid (∀ q ∈ qs, q.nm.length <= 130) := by
         have := HK.out
         rw [List.take_of_length_le (by omega)] at this
         exact this
       clear HK
       go_wp2_with fail
       clear k10 lb
       go_loopw [5] (fun y wr => ∃ j : Nat, j <= tn /\ y = .int .i64 (j : Int) /\ Hid (∀ r ∈ L.take j, r.ow.length <= 130 /\ Small r.d) /\ Hid (Below w1.heap.size w1 wr)) (fun y _ => tn - (intOf y).toNat)
       case atStart => exact ⟨0, Nat.zero_le _, rfl, fun q hq => (by simp at hq), Below.refl _ _⟩
       case round =>
         obtain ⟨j, hj, rfl, HJ, HBJ⟩ := hrel
         by_cases hjl : j < tn
         · have hjl' : (j : Int) < (tn : Int) := by omega
           have hjL : j < L.length := by omega
           obtain ⟨rb, ro, e0, hrb, xx, he, hx⟩ := (HT1.out.below HBJ.out).rd.at j hjL
           simp only at e0
           subst e0
           have KD := Lib.hid (large_any xx.d L[j].d wr hx.2)
           have hon : L[j].ow.length = xx.o.n := hx.1.len
           have HON := Lib.hid hon
           have d0 := he 0 (by omega)
           have d4 := he 4 (by omega)
           have d5 := he 5 (by omega)
           have d6 := he 6 (by omega)
           have d7 := he 7 (by omega)
           clear hx he hon
           obtain ⟨⟨xa, xn, xc⟩, ⟨⟨xa1, xn1, xc1⟩, ⟨xa2, xn2, xc2⟩, ⟨xa3, xn3, xc3⟩, ⟨xa4, xn4, xc4⟩⟩⟩ := xx
           simp only [recCells, Nat.add_zero, List.getElem?_cons_zero, List.getElem?_cons_succ] at d0 d4 d5 d6 d7 KD HON
           by_cases g9 : (130 : Int) < (xn : Int)
           · go_wp2
             go_ret
             exact lmp_yes (HB1.out.trans (HBJ.out.mono HB1.out.size))
           · go_wp2_with fail
             refine KD.out.mono ?_
             rintro e w5 ⟨bb, rfl, hbb, hb5⟩
             have HB5 : Hid (Below w1.heap.size w1 w5) := HBJ.out.trans (hb5.mono HBJ.out.size)
             have HSM := Lib.hid hbb
             clear hb5 hbb KD d0 d4 d5 d6 d7
             cases bb
             · have hN9 : ∀ r ∈ L.take (j + 1), r.ow.length <= 130 /\ Small r.d := @allp_step Rec (fun r => r.ow.length <= 130 /\ Small r.d) L j hjL HJ.out ⟨by rw [HON.out]; omega, HSM.out rfl⟩
               have HN := Lib.hid hN9
               clear hN9
               go_wp2
               go_round
               case rel => exact ⟨j + 1, by omega, by go_num, HN, HB5⟩
               case measure => simp [intOf]; omega
             · go_wp2
               go_ret
               exact lmp_yes (HB1.out.trans (HB5.out.mono HB1.out.size))
         · have hjge : (tn : Int) <= (j : Int) := by omega
           have HJL : Hid (∀ r ∈ L, r.ow.length <= 130 /\ Small r.d) := by
             have := HJ.out
             rw [List.take_of_length_le (by omega)] at this
             exact this
           go_wp2
           go_ret
           refine lmp_no ⟨by rw [<- HQS.out]; exact HG.out.1, by rw [<- HQS.out]; exact HKQ.out, by rw [<- HL.out]; exact HG.out.2, by rw [<- HL.out]; exact HJL.out⟩ (HB1.out.trans (HBJ.out.mono HB1.out.size))
end Go.Proofs.YtkjnbgekaifdfaaGreat
namespace Go.Proofs.YtkjnbgekaifdfaaGreat
open Go.ChangeShapes Go.WideShapes Go.ChangeAt Go.RowKit Go.Maps
theorem FewM.fin {m : Mg} (h : FewM m) : Fin m := by
 have hmem : ∀ k, ∀ r ∈ nthL m k, r ∈ m.l1 ++ m.l2 ++ m.l3 := by
   intro k r hr
   unfold nthL at hr
   split at hr
   · simp [hr]
   · split at hr <;> simp [hr]
 refine ⟨fun k r hr => ((h.r r (hmem k r hr)).2).bd, fun q hq => by have := h.qn q hq; omega, fun k r hr => by have := (h.r r (hmem k r hr)).1; omega, ?_, by have := h.q; omega⟩
 have := h.l
 simp only [List.length_append] at this
 unfold tot
 omega
end Go.Proofs.YtkjnbgekaifdfaaGreat
namespace Go.Proofs.YtkjnbgekaifdfaaGreat
open Go.ChangeShapes Go.WideShapes Go.ChangeAt Go.RowKit
theorem pbody_all (m : Mg) : pbody m = psq (pls (m.qs.map pqn)) (pls ((m.l1 ++ m.l2 ++ m.l3).map prec)) := by
 unfold pbody
 rw [List.map_append, List.map_append, pls_app, pls_app, psq_assoc]
theorem cut_all (m : Mg) (k : Nat) : (cutM m k).l1 ++ (cutM m k).l2 ++ (cutM m k).l3 = (m.l1 ++ m.l2 ++ m.l3).take k := by
 simp only [cutM]
 rw [List.take_append, List.take_append, List.length_append, Nat.sub_sub]
theorem cut_len (m : Mg) (k : Nat) (hk : k <= tot m) : (cutM m k).l1.length + (cutM m k).l2.length + (cutM m k).l3.length = k := by
 have := congrArg List.length (cut_all m k)
 simp only [List.length_append, List.length_take] at this
 unfold tot at hk
 omega
theorem cut_whole (m : Mg) : cutM m (tot m) = m := by
 unfold cutM tot
 rw [List.take_of_length_le (by omega), List.take_of_length_le (by omega), List.take_of_length_le (by omega)]
theorem Mb.cut {m : Mg} (h : Mb m) (k : Nat) : Mb (cutM m k) :=
 ⟨h.1, h.2.1, fun r hr => h.2.2.1 r (List.mem_of_mem_take hr), fun r hr => h.2.2.2.1 r (List.mem_of_mem_take hr), fun r hr => h.2.2.2.2 r (List.mem_of_mem_take hr)⟩
theorem hdB_l (h : Hd) (a b c d : Nat) : (hdB h a b c d).length = 12 := by
 unfold hdB nsL b16s
 rfl
theorem parts_wr {m : Mg} {k : Nat} {z : List Int × PLs} (h : prun (pmsg m) (some ([], [])) = some z) : ∃ zk : List Int × PLs, ∃ hd hd' bf bg : List Int, prun (pmsg (cutM m k)) (some ([], [])) = some zk /\ z.1 = hd ++ (bf ++ bg) /\ zk.1 = hd' ++ bf /\ hd.length = 12 /\ hd'.length = 12 := by
 have hq : (cutM m k).qs = m.qs := rfl
 have e1 : pbody m = psq (psq (pls (m.qs.map pqn)) (pls (((m.l1 ++ m.l2 ++ m.l3).take k).map prec))) (pls (((m.l1 ++ m.l2 ++ m.l3).drop k).map prec)) := by
   have e0 : pls ((m.l1 ++ m.l2 ++ m.l3).map prec) = psq (pls (((m.l1 ++ m.l2 ++ m.l3).take k).map prec)) (pls (((m.l1 ++ m.l2 ++ m.l3).drop k).map prec)) := by
     rw [<- pls_app, <- List.map_append, List.take_append_drop]
   rw [pbody_all, psq_assoc, e0]
 have e2 : pbody (cutM m k) = psq (pls (m.qs.map pqn)) (pls (((m.l1 ++ m.l2 ++ m.l3).take k).map prec)) := by
   rw [pbody_all, cut_all, hq]
 unfold pmsg at h ⊢
 rw [e1, prun_seq, prun_seq] at h
 rw [e2, prun_seq]
 generalize psq (pls (m.qs.map pqn)) (pls (((m.l1 ++ m.l2 ++ m.l3).take k).map prec)) = f at *
 generalize pls (((m.l1 ++ m.l2 ++ m.l3).drop k).map prec) = g at *
 have hl := hdB_l m.h m.qs.length m.l1.length m.l2.length m.l3.length
 have hl' := hdB_l (cutM m k).h (cutM m k).qs.length (cutM m k).l1.length (cutM m k).l2.length (cutM m k).l3.length
 generalize hdB m.h m.qs.length m.l1.length m.l2.length m.l3.length = hd at *
 generalize hdB (cutM m k).h (cutM m k).qs.length (cutM m k).l1.length (cutM m k).l2.length (cutM m k).l3.length = hd' at *
 have p1 : prun (pby hd) (some ([], [])) = some (hd, []) := by
   simp only [prun, Option.bind_some, pby, List.length_nil, Nat.zero_add, List.nil_append]
   rw [if_neg (by omega)]
 have p2 : prun (pby hd') (some ([], [])) = some (hd', []) := by
   simp only [prun, Option.bind_some, pby, List.length_nil, Nat.zero_add, List.nil_append]
   rw [if_neg (by omega)]
 rw [p1] at h
 rw [p2]
 cases hf : prun f (some (hd, [])) with
 | none => rw [hf] at h; cases h
 | some y =>
   rw [hf] at h
   obtain ⟨h1, h2⟩ := prun_some hf
   obtain ⟨h3, h4⟩ := prun_some (f := g) (tx := y.1) (pl := y.2) h
   rw [hl] at h1 h2
   refine ⟨(hd' ++ (f [] 12).1, (f [] 12).2), hd, hd', (f [] 12).1, (g y.2 y.1.length).1, ?_, ?_, rfl, hl, hl'⟩
   · simp only [prun, Option.bind_some, hl']
     rw [if_neg (by omega)]
   · rw [h3, h1]
     simp
end Go.Proofs.YtkjnbgekaifdfaaGreat
namespace Go.Proofs.YtkjnbgekaifdfaaGreat
open Go.ChangeShapes Go.WideShapes Go.ChangeAt Go.RowKit
def PkP (n : Nat) (w : World) (e : Ending) (w' : World) : Prop := ∃ k : Nat, k < n /\ e = .returned (.int .i64 (k : Int)) /\ w' = w
theorem pkp_mk {n : Nat} {w : World} {z : Int} (h0 : 0 <= z) (h1 : z < (n : Int)) : PkP n w (.returned (.int .i64 z)) w := ⟨z.toNat, by omega, by rw [Int.toNat_of_nonneg h0], rfl⟩
theorem pick30 (z : Int) (n : Nat) (w : World) (hn : 1 <= n) (hb : n <= 4000000) : Calls Tryz.prog 10 #[.int .i64 z, .int .i64 (n : Int)] w (PkP n w) := by
 have g1 : ¬ (n : Int) < 1 := by omega
 have g2 : ¬ (n : Int) = 0 := by omega
 have r1 : z.tmod (n : Int) < (n : Int) := Int.tmod_lt_of_pos z (by omega)
 have r2 : -(n : Int) < z.tmod (n : Int) := by
   have := Int.tmod_lt_of_pos (-z) (b := (n : Int)) (by omega)
   rw [Int.neg_tmod] at this
   omega
 have hw : IntKind.i64.wrap (z.tmod (n : Int)) = z.tmod (n : Int) := by rw [IntKind.wrap_i64]; omega
 by_cases h : z.tmod (n : Int) < 0
 · have hw2 : IntKind.i64.wrap (z.tmod (n : Int) + (n : Int)) = z.tmod (n : Int) + (n : Int) := by rw [IntKind.wrap_i64]; omega
   go_enter Tryz.func10, Tryz.ntmps10
   go_wp2
   go_ret
   exact pkp_mk (by omega) (by omega)
 · go_enter Tryz.func10, Tryz.ntmps10
   go_wp2
   go_ret
   exact pkp_mk (by omega) (by omega)
end Go.Proofs.YtkjnbgekaifdfaaGreat
namespace Go.Proofs.YtkjnbgekaifdfaaGreat
open Go.ChangeShapes Go.WideShapes Go.ChangeAt Go.RowKit Go.Maps
theorem BRd.adrW {w : World} {s : Sl} {zs : List Int} (h : BRd w s zs) (h0 : zs ≠ []) : ∃ b o, s.a = Option.some ⟨b, o, Option.none⟩ /\ b < w.heap.size := by
 rcases h.rd.1 with e | ⟨b, o, e1, e2, _⟩
 · exact absurd e h0
 · exact ⟨b, o, e1, e2⟩
set_option maxHeartbeats 16000000 in
theorem partsM (H : Hd) (x : MA) (m : Mg) (rn : Int) (w : World) (hm : MRd w H x m) (ht : x.l1.n + x.l2.n + x.l3.n <= 2000000) : Calls Tryz.prog 3 #[.agg #[.int .u16 H.id, .bool H.rs, .int .i64 H.op, .bool H.aa, .bool H.tc, .bool H.rd, .bool H.ra, .bool H.ad, .bool H.cd, .int .i64 H.rc, .slice x.q.a x.q.n x.q.c, .slice x.l1.a x.l1.n x.l1.c, .slice x.l2.a x.l2.n x.l2.c, .slice x.l3.a x.l3.n x.l3.c], .int .i64 rn] w fun e w' => e = .returned (.bool true) /\ Hid (Below w.heap.size w w') := by
 have hb0 := newq_below w (.cells #[.int .u16 H.id, .bool H.rs, .int .i64 H.op, .bool H.aa, .bool H.tc, .bool H.rd, .bool H.ra, .bool H.ad, .bool H.cd, .int .i64 H.rc, .slice x.q.a x.q.n x.q.c, .slice x.l1.a x.l1.n x.l1.c, .slice x.l2.a x.l2.n x.l2.c, .slice x.l3.a x.l3.n x.l3.c] 26)
 have HX : Hid ((w.alloc (.cells #[.int .u16 H.id, .bool H.rs, .int .i64 H.op, .bool H.aa, .bool H.tc, .bool H.rd, .bool H.ra, .bool H.ad, .bool H.cd, .int .i64 H.rc, .slice x.q.a x.q.n x.q.c, .slice x.l1.a x.l1.n x.l1.c, .slice x.l2.a x.l2.n x.l2.c, .slice x.l3.a x.l3.n x.l3.c] 26)).heap[w.heap.size]? = some (.cells #[.int .u16 H.id, .bool H.rs, .int .i64 H.op, .bool H.aa, .bool H.tc, .bool H.rd, .bool H.ra, .bool H.ad, .bool H.cd, .int .i64 H.rc, .slice x.q.a x.q.n x.q.c, .slice x.l1.a x.l1.n x.l1.c, .slice x.l2.a x.l2.n x.l2.c, .slice x.l3.a x.l3.n x.l3.c] 26)) := heap_alloc_new _ _
 have HB0 := Lib.hid hb0
 have HM : Hid (MRd (w.alloc (.cells #[.int .u16 H.id, .bool H.rs, .int .i64 H.op, .bool H.aa, .bool H.tc, .bool H.rd, .bool H.ra, .bool H.ad, .bool H.cd, .int .i64 H.rc, .slice x.q.a x.q.n x.q.c, .slice x.l1.a x.l1.n x.l1.c, .slice x.l2.a x.l2.n x.l2.c, .slice x.l3.a x.l3.n x.l3.c] 26)) H x m) := hm.below hb0
 have HHm : Hid (m.h = H) := hm.h
 have HMb : Hid (Mb m) := hm.b
 have HTT : Hid (tot m = x.l1.n + x.l2.n + x.l3.n) := (show _ = _ by unfold tot; rw [hm.l1.len, hm.l2.len, hm.l3.len])
 clear hb0 hm
 go_enter Tryz.func3, Tryz.ntmps3
 go_wp2_with fail
 generalize w.alloc (.cells #[.int .u16 H.id, .bool H.rs, .int .i64 H.op, .bool H.aa, .bool H.tc, .bool H.rd, .bool H.ra, .bool H.ad, .bool H.cd, .int .i64 H.rc, .slice x.q.a x.q.n x.q.c, .slice x.l1.a x.l1.n x.l1.c, .slice x.l2.a x.l2.n x.l2.c, .slice x.l3.a x.l3.n x.l3.c] 26) = w0 at *
 obtain ⟨b, hbb⟩ : ∃ b, b = w.heap.size := ⟨_, rfl⟩
 rw [<- hbb] at HX
 simp only [<- hbb]
 clear hbb
 have KM : ∀ W, Below w0.heap.size w0 W -> W.cell? ⟨b, 0, none⟩ = some (.int .u16 H.id) /\ W.cell? ⟨b, 1, none⟩ = some (.bool H.rs) /\ W.cell? ⟨b, 2, none⟩ = some (.int .i64 H.op) /\ W.cell? ⟨b, 3, none⟩ = some (.bool H.aa) /\ W.cell? ⟨b, 4, none⟩ = some (.bool H.tc) /\ W.cell? ⟨b, 5, none⟩ = some (.bool H.rd) /\ W.cell? ⟨b, 6, none⟩ = some (.bool H.ra) /\ W.cell? ⟨b, 7, none⟩ = some (.bool H.ad) /\ W.cell? ⟨b, 8, none⟩ = some (.bool H.cd) /\ W.cell? ⟨b, 9, none⟩ = some (.int .i64 H.rc) /\ W.cell? ⟨b, 10, none⟩ = some (.slice x.q.a x.q.n x.q.c) /\ W.cell? ⟨b, 11, none⟩ = some (.slice x.l1.a x.l1.n x.l1.c) /\ W.cell? ⟨b, 12, none⟩ = some (.slice x.l2.a x.l2.n x.l2.c) /\ W.cell? ⟨b, 13, none⟩ = some (.slice x.l3.a x.l3.n x.l3.c) := fun W hb => by
   have mm := (hb.block b (box_lt HX.out)).trans HX.out
   exact ⟨box_cell mm 0 _ rfl, box_cell mm 1 _ rfl, box_cell mm 2 _ rfl, box_cell mm 3 _ rfl, box_cell mm 4 _ rfl, box_cell mm 5 _ rfl, box_cell mm 6 _ rfl, box_cell mm 7 _ rfl, box_cell mm 8 _ rfl, box_cell mm 9 _ rfl, box_cell mm 10 _ rfl, box_cell mm 11 _ rfl, box_cell mm 12 _ rfl, box_cell mm 13 _ rfl⟩
 have K28 := fun W => Lib.hid (awake10 W)
 go_wp2_with fail
 refine (K28 _).out.mono ?_
 rintro e w1 ⟨rfl, H1⟩
 obtain ⟨k0, k1, k2, k3, k4, k5, k6, k7, k8, k9, k10, k11, k12, k13⟩ := KM w1 H1.out
 have lb : b < w1.heap.size := Nat.lt_of_lt_of_le (box_lt HX.out) (Below.size H1.out)
 have K9 := Lib.hid (largeM H x m w1 (HM.out.below H1.out) ht)
 go_wp2_with fail
 refine K9.out.mono ?_
 rintro e w2 ⟨bl, rfl, H2⟩
 have HB2 : Hid (Below w0.heap.size w0 w2) := H1.out.trans (H2.out.2.mono H1.out.size)
 have HFW := Lib.hid H2.out.1
 clear k0 k1 k2 k3 k4 k5 k6 k7 k8 k9 k10 k11 k12 k13 lb
 clear K9 K28 H1 H2
 obtain ⟨k0, k1, k2, k3, k4, k5, k6, k7, k8, k9, k10, k11, k12, k13⟩ := KM w2 HB2.out
 have lb : b < w2.heap.size := Nat.lt_of_lt_of_le (box_lt HX.out) (Below.size HB2.out)
 cases bl with
 | true =>
   go_wp2
   go_ret
   exact ⟨rfl, HB0.out.trans (HB2.out.mono HB0.out.size)⟩
 | false =>
   have HF : Hid (Fin m) := (HFW.out rfl).fin
   have hN : x.l1.n + x.l2.n + x.l3.n <= 515 := by
     have h1 := (HFW.out rfl).l
     have h2 := HTT.out
     unfold tot at h2
     simp only [List.length_append] at h1
     omega
   have K11 := Lib.hid (bytes_msg H x m w2 (HM.out.below HB2.out) HF.out)
   go_wp2_with fail
   refine K11.out.mono ?_
   rintro e w3 ⟨⟨pa, pn, pc⟩, er, rfl, H3⟩
   have HB3 : Hid (Below w0.heap.size w0 w3) := HB2.out.trans (H3.out.2.mono HB2.out.size)
   have hby := H3.out.1
   unfold ByR at hby
   clear k0 k1 k2 k3 k4 k5 k6 k7 k8 k9 k10 k11 k12 k13 lb
   clear K11 HFW
   obtain ⟨k0, k1, k2, k3, k4, k5, k6, k7, k8, k9, k10, k11, k12, k13⟩ := KM w3 HB3.out
   have lb : b < w3.heap.size := Nat.lt_of_lt_of_le (box_lt HX.out) (Below.size HB3.out)
   have K30 := Lib.hid (pick30 rn (x.l1.n + x.l2.n + x.l3.n + 1) w3 (by omega) (by omega))
   have hcast : ((x.l1.n + x.l2.n + x.l3.n + 1 : Nat) : Int) = (x.l1.n : Int) + (x.l2.n : Int) + (x.l3.n : Int) + 1 := by omega
   rw [hcast] at K30
   clear hcast
   go_wp2_with fail
   refine K30.out.mono ?_
   rintro e w4 ⟨k, hk, rfl, hw4⟩
   subst hw4
   have K13 := Lib.hid (part_any H x m (k : Int) w4 (HM.out.below HB3.out) HF.out)
   clear K30
   go_wp2_with fail
   refine K13.out.mono ?_
   rintro e w5 ⟨⟨qa, qn, qc⟩, e2, rfl, H5⟩
   have HB5 : Hid (Below w0.heap.size w0 w5) := HB3.out.trans (H5.out.2.mono HB3.out.size)
   have HW5 : Hid (Below w4.heap.size w4 w5) := H5.out.2
   have hpt := H5.out.1
   unfold PtR at hpt
   clear K13 H5
   clear k0 k1 k2 k3 k4 k5 k6 k7 k8 k9 k10 k11 k12 k13 lb
   have hcase : (er ≠ 0) ∨ (er = 0 /\ e2 = 0 /\ ∃ hd hd' bf bg : List Int, BRd w5 ⟨pa, pn, pc⟩ (hd ++ (bf ++ bg)) /\ BRd w5 ⟨qa, qn, qc⟩ (hd' ++ bf) /\ hd.length = 12 /\ hd'.length = 12 /\ gmsg (hd' ++ bf) = some (cutM m k) /\ (k = x.l1.n + x.l2.n + x.l3.n -> hd' ++ bf = hd ++ (bf ++ bg)) /\ (hd ++ (bf ++ bg)).length <= 65535) := by
     by_cases hc : chkM m = 0
     · rw [if_pos hc] at hby hpt
       cases hpr : prun (pmsg m) (some ([], [])) with
       | none =>
         rw [hpr] at hby
         exact .inl (by rw [hby.1]; decide)
       | some z1 =>
         rw [hpr] at hby
         have hmb := msg_back (chkM_zero.1 hc) HMb.out (zs := z1.1) (pl := z1.2) hpr
         obtain ⟨zk, hd, hd', bf, bg, h1, h2, h3, h4, h5⟩ := parts_wr (k := k) hpr
         rw [if_pos ⟨by omega, by rw [HTT.out]; omega⟩, Int.toNat_natCast, h1] at hpt
         have hmk := msg_back ((chkM_zero.1 hc).cut k) (HMb.out.cut k) (zs := zk.1) (pl := zk.2) h1
         refine .inr ⟨hby.1, hpt.1, hd, hd', bf, bg, ?_, ?_, h4, h5, ?_, ?_, ?_⟩
         · rw [<- h2]; exact hby.2.below HW5.out
         · rw [<- h3]; exact hpt.2
         · rw [<- h3]; exact hmk.1
         · intro ek
           rw [<- h2, <- h3]
           have : k = tot m := by rw [HTT.out]; exact ek
           rw [this, cut_whole, hpr] at h1
           rw [Option.some.inj h1]
         · rw [<- h2]; exact hmb.2.1
     · rw [if_neg hc] at hby
       exact .inl (by rw [hby.1]; exact hc)
   clear hby hpt
   rcases hcase with hne | ⟨h1, h2, hd, hd', bf, bg, hz, hq, hl1, hl2, hg, hkk, hle⟩
   · have hb1 : (er != 0) = true := by simp [hne]
     go_wp2
     go_ret
     exact ⟨rfl, HB0.out.trans (HB5.out.mono HB0.out.size)⟩
   · subst h1
     subst h2
     obtain ⟨L, hL⟩ : ∃ L, L = bf.length := ⟨_, rfl⟩
     obtain ⟨G, hG⟩ : ∃ G, G = bg.length := ⟨_, rfl⟩
     have hqn : qn = L + 12 := by have := hq.len; simp only [List.length_append] at this; omega
     have hpn : pn = L + G + 12 := by have := hz.len; simp only [List.length_append] at this; omega
     have hLG : L + G + 12 <= 65535 := by simp only [List.length_append] at hle; omega
     obtain ⟨pb, po, hpa, hpl⟩ := hz.adrW (by intro e; have := congrArg List.length e; simp only [List.length_append, List.length_nil] at this; omega)
     obtain ⟨qb, qo, hqa, hql⟩ := hq.adrW (by intro e; have := congrArg List.length e; simp only [List.length_append, List.length_nil] at this; omega)
     simp only at hpa hqa
     subst hpa
     subst hqa
     subst hqn
     subst hpn
     have hpc := hz.cap
     have hqc := hq.cap
     simp only at hpc hqc
     have HZ := Lib.hid hz
     have HQ := Lib.hid hq
     have HLN : Hid (hd.length = 12 /\ hd'.length = 12 /\ bf.length = L /\ bg.length = G) := ⟨hl1, hl2, hL.symm, hG.symm⟩
     have HKK := Lib.hid hkk
     have K24 := Lib.hid (mread_some ⟨some ⟨qb, qo, none⟩, L + 12, qc⟩ (hd' ++ bf) w5 hq (show 1 <= L + 12 by omega) (show L + 12 <= 140737488355328 by omega) (cutM m k) hg)
     rw [show (cutM m k).h = H from HHm.out] at K24
     clear hz hq hl1 hl2 hg hkk hle hL hG
     go_wp2_with fail
     refine K24.out.mono ?_
     rintro e w6 ⟨x6, rfl, H6⟩
     have nb := newq_below w6 (.cells #[.int .u16 H.id, .bool H.rs, .int .i64 H.op, .bool H.aa, .bool H.tc, .bool H.rd, .bool H.ra, .bool H.ad, .bool H.cd, .int .i64 H.rc, .slice x6.q.a x6.q.n x6.q.c, .slice x6.l1.a x6.l1.n x6.l1.c, .slice x6.l2.a x6.l2.n x6.l2.c, .slice x6.l3.a x6.l3.n x6.l3.c] 26)
     have nx : (w6.alloc (.cells #[.int .u16 H.id, .bool H.rs, .int .i64 H.op, .bool H.aa, .bool H.tc, .bool H.rd, .bool H.ra, .bool H.ad, .bool H.cd, .int .i64 H.rc, .slice x6.q.a x6.q.n x6.q.c, .slice x6.l1.a x6.l1.n x6.l1.c, .slice x6.l2.a x6.l2.n x6.l2.c, .slice x6.l3.a x6.l3.n x6.l3.c] 26)).heap[w6.heap.size]? = some (.cells #[.int .u16 H.id, .bool H.rs, .int .i64 H.op, .bool H.aa, .bool H.tc, .bool H.rd, .bool H.ra, .bool H.ad, .bool H.cd, .int .i64 H.rc, .slice x6.q.a x6.q.n x6.q.c, .slice x6.l1.a x6.l1.n x6.l1.c, .slice x6.l2.a x6.l2.n x6.l2.c, .slice x6.l3.a x6.l3.n x6.l3.c] 26) := heap_alloc_new _ _
     have HB67 : Hid (Below w5.heap.size w5 (w6.alloc (.cells #[.int .u16 H.id, .bool H.rs, .int .i64 H.op, .bool H.aa, .bool H.tc, .bool H.rd, .bool H.ra, .bool H.ad, .bool H.cd, .int .i64 H.rc, .slice x6.q.a x6.q.n x6.q.c, .slice x6.l1.a x6.l1.n x6.l1.c, .slice x6.l2.a x6.l2.n x6.l2.c, .slice x6.l3.a x6.l3.n x6.l3.c] 26))) := H6.out.2.2.trans (nb.mono H6.out.2.2.size)
     have HB7 : Hid (Below w0.heap.size w0 (w6.alloc (.cells #[.int .u16 H.id, .bool H.rs, .int .i64 H.op, .bool H.aa, .bool H.tc, .bool H.rd, .bool H.ra, .bool H.ad, .bool H.cd, .int .i64 H.rc, .slice x6.q.a x6.q.n x6.q.c, .slice x6.l1.a x6.l1.n x6.l1.c, .slice x6.l2.a x6.l2.n x6.l2.c, .slice x6.l3.a x6.l3.n x6.l3.c] 26))) := HB5.out.trans (HB67.out.mono HB5.out.size)
     have hl := cut_len m k (by rw [HTT.out]; omega)
     have hsm : x6.l1.n + x6.l2.n + x6.l3.n = k := by
       rw [<- H6.out.2.1.l1.len, <- H6.out.2.1.l2.len, <- H6.out.2.1.l3.len]; exact hl
     have i11 := box_cell nx 11 _ rfl
     have i12 := box_cell nx 12 _ rfl
     have i13 := box_cell nx 13 _ rfl
     have il := box_lt nx
     clear nb nx K24 hl H6
     go_upto_region 11 with fail
     generalize w6.alloc (.cells #[.int .u16 H.id, .bool H.rs, .int .i64 H.op, .bool H.aa, .bool H.tc, .bool H.rd, .bool H.ra, .bool H.ad, .bool H.cd, .int .i64 H.rc, .slice x6.q.a x6.q.n x6.q.c, .slice x6.l1.a x6.l1.n x6.l1.c, .slice x6.l2.a x6.l2.n x6.l2.c, .slice x6.l3.a x6.l3.n x6.l3.c] 26) = w7 at *
     obtain ⟨q, hqq⟩ : ∃ q, q = w6.heap.size := ⟨_, rfl⟩
     simp only [<- hqq] at i11 i12 i13 il ⊢
     clear hqq
     have hsi : (x6.l1.n : Int) + (x6.l2.n : Int) + (x6.l3.n : Int) = (k : Int) := by omega
     have c1 : ¬ ((L + G + 12 : Nat) : Int) < ((L + 12 : Nat) : Int) := by omega
     have c2 : ¬ ((L + 12 : Nat) : Int) < 12 := by omega
     clear hsm
     go_upto_region 13 with fail
     clear i11 i12 i13 il hsi c1 c2
     have K15b : Hid (∀ n : Nat, Calls Tryz.prog 13 #[.slice (some ⟨qb, qo + 12, none⟩) L (qc - 12), .slice (some ⟨pb, po + 12, none⟩) L (pc - 12)] (w7.drewN n) fun e w' => e = .returned (.bool true) /\ w' = w7.drewN n) := fun n => by
       have hb := below_dn w7 n
       have hl := HLN.out
       have r1 := (((HQ.out.below HB67.out).below hb).rd).cut 12 L (by simp only [List.length_append]; omega) (a' := some ⟨qb, qo + 12, none⟩) (fun _ b' o' e => by cases e; rfl)
       have r2 := (((HZ.out.below HB67.out).below hb).rd).cut 12 L (by simp only [List.length_append]; omega) (a' := some ⟨pb, po + 12, none⟩) (fun _ b' o' e => by cases e; rfl)
       rw [List.drop_append_of_le_length (by omega), List.drop_of_length_le (by omega), List.nil_append] at r1 r2
       rw [List.take_of_length_le (by omega)] at r1
       rw [List.take_append_of_le_length (by omega), List.take_of_length_le (by omega)] at r2
       exact same_yes _ _ L _ _ bf _ r1 r2 hl.2.2.1
     have HEnd : ∀ n, Hid (Below w.heap.size w (w7.drewN n)) := fun n => HB0.out.trans ((HB7.out.trans ((below_dn w7 n).mono HB7.out.size)).mono HB0.out.size)
     by_cases hkN : k < x.l1.n + x.l2.n + x.l3.n
     · have d1 : (k : Int) < (x.l1.n : Int) + (x.l2.n : Int) + (x.l3.n : Int) := by omega
       have d1' : decide ((k : Int) < (x.l1.n : Int) + (x.l2.n : Int) + (x.l3.n : Int)) = true := decide_eq_true d1
       by_cases hL0 : L = 0
       · subst hL0
         go_quiet (fail)
         go_wp2
         go_ret
         exact ⟨rfl, (HEnd _).out⟩
       · have d4 : ¬ qc = 12 := by omega
         have d5 : ¬ pc = 12 := by omega
         obtain ⟨Q, hQ⟩ : ∃ Q, Q = L + 12 := ⟨_, rfl⟩
         have K15c := K15b
         rw [show L = Q - 12 by omega] at K15c
         have hQ1 : 12 <= Q := by omega
         have hQ2 : Q <= 65535 := by omega
         have e1 : ((Q : Int) == 12) = false := by simp; omega
         have e2 : ¬ (Q : Int) = 12 := by omega
         have e3 : decide ((Q : Int) = 12) = false := decide_eq_false e2
         have e4 : ¬ Q = 12 := by omega
         have e5 : (12 : Int) <= (Q : Int) := by omega
         have e6 : Q <= qc := by omega
         have e7 : Q <= pc := by omega
         have e8 : (Q : Int) <= (pc : Int) := by omega
         simp only [<- hQ]
         clear hQ K15b hL0
         go_quiet (first
           | (go_at_call 13; with_reducible exact Calls.quiet_of_same (K15c.out _))
           | fail)
         go_wp2
         go_ret
         exact ⟨rfl, (HEnd _).out⟩
     · have hkE : k = x.l1.n + x.l2.n + x.l3.n := by omega
       have hsame := HKK.out hkE
       have hG0 : G = 0 := by
         have h1 := congrArg List.length hsame
         have h2 := HLN.out
         simp only [List.length_append] at h1
         omega
       subst hG0
       have d1 : ¬ (k : Int) < (x.l1.n : Int) + (x.l2.n : Int) + (x.l3.n : Int) := by omega
       have d1' : decide ((k : Int) < (x.l1.n : Int) + (x.l2.n : Int) + (x.l3.n : Int)) = false := decide_eq_false d1
       have K15a : Hid (∀ n : Nat, Calls Tryz.prog 13 #[.slice (some ⟨qb, qo, none⟩) (L + 12) qc, .slice (some ⟨pb, po, none⟩) (L + 12) pc] (w7.drewN n) fun e w' => e = .returned (.bool true) /\ w' = w7.drewN n) := fun n => by
         have hb := below_dn w7 n
         have hl := HLN.out
         have r1 := ((HQ.out.below HB67.out).below hb).rd
         have r2 := ((HZ.out.below HB67.out).below hb).rd
         rw [<- hsame] at r2
         exact same_yes _ _ (L + 12) _ _ (hd' ++ bf) _ r1 r2 (by simp only [List.length_append]; omega)
       simp only [Nat.add_zero] at hLG hpc ⊢
       clear hsame HKK hkE
       by_cases hL0 : L = 0
       · subst hL0
         simp only [Nat.zero_add] at K15a ⊢
         go_quiet (first
           | (go_at_call 13; with_reducible exact Calls.quiet_of_same (K15a.out _))
           | fail)
         go_wp2
         go_ret
         exact ⟨rfl, (HEnd _).out⟩
       · have d4 : ¬ qc = 12 := by omega
         have d5 : ¬ pc = 12 := by omega
         obtain ⟨Q, hQ⟩ : ∃ Q, Q = L + 12 := ⟨_, rfl⟩
         have K15c := K15b
         rw [show L = Q - 12 by omega] at K15c
         have hQ1 : 12 <= Q := by omega
         have hQ2 : Q <= 65535 := by omega
         have e1 : ((Q : Int) == 12) = false := by simp; omega
         have e2 : ¬ (Q : Int) = 12 := by omega
         have e3 : decide ((Q : Int) = 12) = false := decide_eq_false e2
         have e4 : ¬ Q = 12 := by omega
         have e5 : (12 : Int) <= (Q : Int) := by omega
         have e6 : Q <= qc := by omega
         have e7 : Q <= pc := by omega
         have e8 : (Q : Int) <= (pc : Int) := by omega
         simp only [<- hQ] at K15a ⊢
         clear hQ K15b hL0
         go_quiet (first
           | (go_at_call 13; with_reducible exact Calls.quiet_of_same (K15a.out _))
           | (go_at_call 13; with_reducible exact Calls.quiet_of_same (K15c.out _))
           | fail)
         go_wp2
         go_ret
         exact ⟨rfl, (HEnd _).out⟩
end Go.Proofs.YtkjnbgekaifdfaaGreat
namespace Go.Proofs.YtkjnbgekaifdfaaGreat
open Go.ChangeShapes Go.WideShapes Go.ChangeAt Go.RowKit Go.Maps
theorem partsPlain (H : Hd) (x : MA) (m : Mg) (rn : Int) (w : World) (hm : MRd w H x m) (ht : x.l1.n + x.l2.n + x.l3.n <= 2000000) : Calls Tryz.prog 3 #[.agg #[.int .u16 H.id, .bool H.rs, .int .i64 H.op, .bool H.aa, .bool H.tc, .bool H.rd, .bool H.ra, .bool H.ad, .bool H.cd, .int .i64 H.rc, .slice x.q.a x.q.n x.q.c, .slice x.l1.a x.l1.n x.l1.c, .slice x.l2.a x.l2.n x.l2.c, .slice x.l3.a x.l3.n x.l3.c], .int .i64 rn] w fun e w' => e = .returned (.bool true) /\ Below w.heap.size w w' := by
 refine (partsM H x m rn w hm ht).mono ?_
 rintro e w' ⟨h1, h2⟩
 exact ⟨h1, h2.out⟩
end Go.Proofs.YtkjnbgekaifdfaaGreat
namespace Go.Proofs.YtkjnbgekaifdfaaGreat
open Go.ChangeShapes Go.WideShapes Go.ChangeAt Go.RowKit Go.Deep Go.Maps
set_option maxRecDepth 100000
variable {H : Type} {enc : TypeId × Value -> H} {W : World}
variable {H : Type} {enc : TypeId × Value -> H} {W : World}
theorem bulk_pos (d : DataW H) : 1 <= Rows.uptoBulk d := by
 cases d with
 | lit l => cases l <;> simp [Rows.uptoBulk]
 | _ => simp [Rows.uptoBulk]
theorem bulk_len : ∀ l : List (DataW H), l.length <= Rows.uptoBulkAll l
 | [] => by simp [Rows.uptoBulkAll]
 | d :: l => by
   have h1 := bulk_len l
   have h2 := bulk_pos d
   simp only [Rows.uptoBulkAll, List.length_cons]
   omega
theorem bulk_slice {t e : TypeId} {a : Option Addr} {len cap fuel : Nat} {x : DataW H × List MemPlace} (ht : Tryz.prog.underlying t = some (.slice e)) (hf : DataW.trod enc Tryz.prog W 0 (fun _ => true) true fuel t [Value.slice a len cap] = some x) : len <= Rows.uptoBulk x.1 := by
 rcases DataW.trod_slice ht hf with ⟨hcs, _⟩ | ⟨x', l, c, elems, rest, n, _, hcs, hx, _, hl, hm, hel, hcell, _⟩
 · simp at hcs
   omega
 · simp at hcs
   obtain ⟨_, rfl, _⟩ := hcs
   rw [hx]
   have := bulk_len (elems.map (·.1))
   simp only [Rows.uptoBulk, List.length_map] at this ⊢
   omega
theorem list14 {α : Type} {l : List α} (h : l.length = 14) : ∃ v0 v1 v2 v3 v4 v5 v6 v7 v8 v9 v10 v11 v12 v13, l = [v0, v1, v2, v3, v4, v5, v6, v7, v8, v9, v10, v11, v12, v13] := by
 match l, h with
 | [v0, v1, v2, v3, v4, v5, v6, v7, v8, v9, v10, v11, v12, v13], _ => exact ⟨v0, v1, v2, v3, v4, v5, v6, v7, v8, v9, v10, v11, v12, v13, rfl⟩
theorem cells24 : Tryz.prog.cellsOf 24 = 1 := by kernel_rfl
theorem bulk_message {fuel : Nat} {d : DataW H} {p : List MemPlace} {v0 v1 v2 v3 v4 v5 v6 v7 v8 v9 v10 : Value} {a1 a2 a3 : Option Addr} {n1 n2 n3 c1 c2 c3 : Nat} (h : DataW.trod enc Tryz.prog W 0 (fun _ => true) true fuel 26 [v0, v1, v2, v3, v4, v5, v6, v7, v8, v9, v10, .slice a1 n1 c1, .slice a2 n2 c2, .slice a3 n3 c3] = some (d, p)) : n1 + n2 + n3 <= Rows.uptoBulk d := by
 obtain ⟨xs, n, _, hx, _, hlen, hall⟩ := DataW.trod_struct Tryz.underlying26 h
 have e1 := hall 11 _ rfl
 have e2 := hall 12 _ rfl
 have e3 := hall 13 _ rfl
 obtain ⟨y0, y1, y2, y3, y4, y5, y6, y7, y8, y9, y10, y11, y12, y13, rfl⟩ := list14 (hlen.trans rfl)
 replace e1 : DataW.trod enc Tryz.prog W 0 (fun _ => true) true n 24 (List.take (Tryz.prog.cellsOf 24) [.slice a1 n1 c1, .slice a2 n2 c2, .slice a3 n3 c3]) = some y11 := e1
 replace e2 : DataW.trod enc Tryz.prog W 0 (fun _ => true) true n 24 (List.take (Tryz.prog.cellsOf 24) [.slice a2 n2 c2, .slice a3 n3 c3]) = some y12 := e2
 replace e3 : DataW.trod enc Tryz.prog W 0 (fun _ => true) true n 24 (List.take (Tryz.prog.cellsOf 24) [.slice a3 n3 c3]) = some y13 := e3
 rw [cells24] at e1 e2 e3
 have b1 := bulk_slice Tryz.underlying24 (show DataW.trod enc Tryz.prog W 0 (fun _ => true) true n 24 [.slice a1 n1 c1] = some y11 from e1)
 have b2 := bulk_slice Tryz.underlying24 (show DataW.trod enc Tryz.prog W 0 (fun _ => true) true n 24 [.slice a2 n2 c2] = some y12 from e2)
 have b3 := bulk_slice Tryz.underlying24 (show DataW.trod enc Tryz.prog W 0 (fun _ => true) true n 24 [.slice a3 n3 c3] = some y13 from e3)
 have hd : d = .agg [y0.1, y1.1, y2.1, y3.1, y4.1, y5.1, y6.1, y7.1, y8.1, y9.1, y10.1, y11.1, y12.1, y13.1] := congrArg (·.1) hx
 rw [hd]
 simp only [Rows.uptoBulk, Rows.uptoBulkAll]
 omega
theorem open_messageB {base : Nat} {v : Value} {d : DataW H} {p : List MemPlace} (hv : Value.okWide Tryz.prog W .any base 26 v) (h : DataW.Trod enc Tryz.prog W 0 (fun _ => true) true 26 v d p) : ∃ (HH : Hd) (x : MA) (m : Mg), v = .agg #[.int .u16 HH.id, .bool HH.rs, .int .i64 HH.op, .bool HH.aa, .bool HH.tc, .bool HH.rd, .bool HH.ra, .bool HH.ad, .bool HH.cd, .int .i64 HH.rc, .slice x.q.a x.q.n x.q.c, .slice x.l1.a x.l1.n x.l1.c, .slice x.l2.a x.l2.n x.l2.c, .slice x.l3.a x.l3.n x.l3.c] /\ MRd W HH x m /\ x.l1.n + x.l2.n + x.l3.n <= Rows.uptoBulk d := by
 obtain ⟨HH, x, m, rfl, hm⟩ := open_message hv h
 obtain ⟨fuel, hf⟩ := h
 exact ⟨HH, x, m, rfl, hm, bulk_message hf⟩
end Go.Proofs.YtkjnbgekaifdfaaGreat
