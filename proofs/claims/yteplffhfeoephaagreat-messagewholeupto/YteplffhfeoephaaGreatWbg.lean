/- Texts laid together, in parts: Sql Sqr Sqb3 Sqm Sqn Mwa Mrb Mrc Mrd Mrd1 Mrd2 Mrd3 Mrd4 Mrd5. -/
import Derived.Test.YteplffhfeoephaaGreatWbf
import Derived.Deep.CutBlock
set_option maxRecDepth 100000
set_option linter.unusedVariables false
set_option linter.unusedSimpArgs false
namespace Go.Proofs.YteplffhfeoephaaGreat
open Go.ChangeShapes Go.WideShapes Go.ChangeAt Go.RowKit Go.Maps Go.Shelf
attribute [local go_sem] Oper.semAt_some
theorem PlM.look {W : World} {mb : Nat} {pl : List (ByteArray × Nat)} (h : PlM W mb pl) (t : ByteArray) (ht : t.size <= 255) :
   (Instr.lookup 161 (.map (some mb)) (.string t) true).run Tryz.prog W = .ok (.tuple #[.int .i64 ((qfind pl t).getD 0 : Nat), .bool (qfind pl t).isSome]) W := by
 obtain ⟨M, h1, h2⟩ := h
 have hkey : keyOf Tryz.prog 9 (.string t) = some (.string t.data.toList) := Go.WideMaps.keyOf_string_mk Tryz.underlying9 (by unfold maxLen; omega)
 obtain ⟨v, ps, hrun, hv⟩ := h1.look_ok law9 Tryz.underlying161 (zero3 W) (zd := .lit (.int .i64 0)) (zp := []) (plainElem_int Tryz.underlying3 (by decide)) hkey
 obtain ⟨c, rfl, hc, _⟩ := plainElem_int_inv Tryz.underlying3 hv
 rw [hrun]
 cases hf : qfind pl t with
 | none =>
   have e := (h2 t).1 hf
   rw [e]
   have hat := atKey_of_not_has e (.lit (.int .i64 0))
   rw [hat] at hc
   have := congrArg Prod.fst hc
   simp only at this
   cases this
   rfl
 | some p =>
   obtain ⟨e, hat⟩ := (h2 t).2 p hf
   rw [e]
   rw [hat] at hc
   have := congrArg Prod.fst hc
   simp only at this
   cases this
   rfl
theorem new_rd2 (w : World) (y z : Int) (hy : 0 <= y /\ y <= 255) (hz : 0 <= z /\ z <= 255) : Rd (w.alloc (.cells #[.int .u8 y, .int .u8 z] 5)) (some ⟨w.heap.size, 0, none⟩) [y, z] := by
 refine ⟨.inr ⟨w.heap.size, 0, rfl, by simp, fun i hi => ?_⟩, by simp; omega⟩
 have : i = 0 ∨ i = 1 := by simp at hi; omega
 rcases this with rfl | rfl <;> simp [go_sem]
theorem Own.setOther {B : Nat} {w : World} {v : Value} {n : Nat} {ys : List Int} (h : Own B w v n ys) {j k : Nat} {cs : Array Value} {t : TypeId} {fr : Nat × Nat} (hj : w.heap[j]? = some (.cells cs t fr)) (ht : t ≠ 5) (u : Value) : Own B (w.setCell ⟨j, k, none⟩ u) v n ys :=
 h.keepAt (fun g e hl => (grown_set w j k u).block g hl (fun e2 => by
   obtain ⟨_, cs', e1⟩ := h.blk5 g e
   simp only [Option.some.injEq] at e2
   subst e2
   rw [hj] at e1; cases e1; exact ht rfl))
theorem Own.lower {B B' : Nat} {w : World} {v : Value} {n : Nat} {ys : List Int} (h : Own B w v n ys) (hB : B' <= B) : Own B' w v n ys := by
 rcases h with h | ⟨g, h1, h2, h3⟩
 · exact .inl h
 · exact .inr ⟨g, h1, Nat.le_trans hB h2, h3⟩
theorem iup_mem {n : Nat} : ∀ {k j : Nat}, j < k -> k <= n -> ∀ h : j < n, (⟨j, h⟩ : Ix n) ∈ iup n k
 | 0, _, h, _, _ => by omega
 | k + 1, j, hj, hk, h => by
   rw [iup_succ (by omega)]
   by_cases e : j = k
   · subst e; simp
   · exact List.mem_append_left _ (iup_mem (by omega) (by omega) h)
theorem own_from_own {n₀ B : Nat} {v : Value} {n : Nat} {ys : List Int} {A W : World} {row : Option Nat} (h : Own n₀ A v n ys) (hg : A.grownBy W row) (hr : ∀ r, row = some r -> B <= r /\ ∃ o : Obj, A.heap[r]? = some o /\ o.isCells = false) : Own n₀ W v n ys :=
 h.keepAt (fun g e hl => hg.block g hl (fun e2 => by
   obtain ⟨_, cs, e1⟩ := h.blk5 g e
   obtain ⟨_, o, e3, e4⟩ := hr g e2.symm
   rw [e1] at e3; cases e3; cases e4))
def ShPost (pl : List (ByteArray × Nat)) (ss : List ByteArray) (w : World) (e : Ending) (w' : World) : Prop :=
 ∃ a' n' c', e = .returned (.tuple #[.slice a' n' c', .int .i64 (qob pl ss : Nat)]) /\ Hid (Rd w' a' (qshort pl ss) /\ (qshort pl ss).length = n' /\ (a' = none -> c' = 0) /\ Below w.heap.size w w')
set_option maxHeartbeats 4000000 in
theorem shorten_any (B g : Nat) (tx : List Int) (pl : List (ByteArray × Nat)) (a : Option Addr) (n c : Nat) (ss : List ByteArray) (w : World) (h : Wr B w g tx pl) (hk : nck ss = 0) (hP : ∀ k p, (k, p) ∈ pl -> p < 16384) (hr : Rd w a (nby ss ++ [0])) (hn : (nby ss ++ [0]).length = n) (hnc : n <= c) (hc : c <= 9223372036854775807) :
   Calls Tryz.prog 164 #[.pointer (some ⟨g, 0, none⟩), .slice a n c] w (ShPost pl ss w) := by
 obtain ⟨v, ys, mb, h⟩ := h
 have hg := box_lt h.box
 have c2 : w.cell? ⟨g, 2, none⟩ = some (.map (some mb)) := box_cell h.box 2 _ rfl
 have hcv : ∀ W, Below w.heap.size w W -> (convert 29 9 (.slice a n c)).run Tryz.prog W = .ok (.string (qkey ss)) W := fun W hW => conv_rd a n c _ W (hr.below hW) hn
 have hx : (convert 29 9 (.slice a n c)).run Tryz.prog ((((w.alloc (.cells #[.pointer (some ⟨g, 0, none⟩)] 124)).alloc (.cells #[.slice a n c] 29)).alloc (.cells #[.slice none 0 0] 29)).alloc (.cells #[.int .i64 0] 3)) = .ok (.string (qkey ss)) ((((w.alloc (.cells #[.pointer (some ⟨g, 0, none⟩)] 124)).alloc (.cells #[.slice a n c] 29)).alloc (.cells #[.slice none 0 0] 29)).alloc (.cells #[.int .i64 0] 3)) := hcv _ (((((Below.refl _ w).alloc (Nat.le_refl _) _).alloc (by simp) _).alloc (by simp; omega) _).alloc (by simp; omega) _)
 clear hcv
 have hlo := labs_of hk
 have hsz : (qkey ss).size = n := by rw [qkey_size, <- nby_len, <- hn]; simp
 have hn255 : n <= 255 := by rw [<- hsz, qkey_size]; exact (nck_small hk).1
 have HR : Hid (Rd w a (nby ss ++ [0])) := hr
 have HM : Hid (PlM w mb pl) := h.map
 have hmb : mb < w.heap.size := by obtain ⟨es, cl, e⟩ := h.map.isMap; exact box_lt e
 have ha : ∃ x, a = some x := by
   cases a with
   | none => rcases hr.1 with h1 | ⟨b, o, h1, _⟩
             · simp at h1
             · cases h1
   | some x => exact ⟨x, rfl⟩
 obtain ⟨x, rfl⟩ := ha
 have HST : Hid (∀ (F : Fence) (m Bs : Nat) (W : World), F.fn 192 -> F.round = none -> 1 <= m -> Boxed W Bs 9 (.string (qkey ss)) -> SeqStopsK F m Tryz.prog 192 #[.pointer (some ⟨Bs, 0, none⟩)] (fun x : Ix ss.length => #[Value.int .i64 (offs ss x.1 : Nat)]) (KpS Bs) (fun ys => ys = iup ss.length ss.length) (fun pre => ∃ k, k <= ss.length /\ pre = iup ss.length k) ss.length W) := fun F m Bs W h1 h2 h3 h4 => tails_stops F m h1 h2 h3 Bs ss hk W h4
 have HT : Hid (∀ k, (qkey ss).extract (offs ss k) (qkey ss).size = qkey (ss.drop k) /\ (qkey (ss.drop k)).size <= 255) := fun k => ⟨qkey_tail ss hlo k, by rw [qkey_size]; have := nsz_drop ss k; have := (nck_small hk).1; omega⟩
 clear h hr
 have HS0 : Hid (∃ s, qkey ss = s) := ⟨_, rfl⟩
 obtain ⟨s, hS⟩ : ∃ s, qkey ss = s := ⟨_, rfl⟩
 rw [hS] at hx hsz HST HT
 have HS : Hid (qkey ss = s) := hS
 clear hS HS0
 refine (callsIn_wide (n := 3)).1 ?_
 refine callsIn_of_wp_marks Tryz.func164 rfl trivial ?_ rfl
 simp only [Tryz.ntmps164, List.size_toArray, List.length_cons, List.length_nil, Nat.reduceAdd, Nat.reduceSub, Array.replicate_succ, Array.replicate_zero, List.push_toArray, List.append_toArray, List.nil_append, List.cons_append]
 gi_wp2_with (refine ⟨trivial, ?_⟩; gi_at_call 177; refine (callsIn_wide.2 (tails_any _ _)).mono ?_; rintro e w' ⟨rfl, rfl⟩)
 have b0 := (((((Boxed.new w 124 (.pointer (some ⟨g, 0, none⟩))).alloc (.cells #[.slice (some x) n c] 29)).alloc (.cells #[.slice none 0 0] 29)).alloc (.cells #[.int .i64 0] 3)).alloc (.cells #[.string s] 9)).alloc (.cells #[.string s] 9)
 have b1 := ((((Boxed.new (w.alloc (.cells #[.pointer (some ⟨g, 0, none⟩)] 124)) 29 (.slice (some x) n c)).alloc (.cells #[.slice none 0 0] 29)).alloc (.cells #[.int .i64 0] 3)).alloc (.cells #[.string s] 9)).alloc (.cells #[.string s] 9)
 have b2 := (((Boxed.new ((w.alloc (.cells #[.pointer (some ⟨g, 0, none⟩)] 124)).alloc (.cells #[.slice (some x) n c] 29)) 29 (.slice none 0 0)).alloc (.cells #[.int .i64 0] 3)).alloc (.cells #[.string s] 9)).alloc (.cells #[.string s] 9)
 have b3 := ((Boxed.new (((w.alloc (.cells #[.pointer (some ⟨g, 0, none⟩)] 124)).alloc (.cells #[.slice (some x) n c] 29)).alloc (.cells #[.slice none 0 0] 29)) 3 (.int .i64 0)).alloc (.cells #[.string s] 9)).alloc (.cells #[.string s] 9)
 have b4 := (Boxed.new ((((w.alloc (.cells #[.pointer (some ⟨g, 0, none⟩)] 124)).alloc (.cells #[.slice (some x) n c] 29)).alloc (.cells #[.slice none 0 0] 29)).alloc (.cells #[.int .i64 0] 3)) 9 (.string s)).alloc (.cells #[.string s] 9)
 have b5 := Boxed.new (((((w.alloc (.cells #[.pointer (some ⟨g, 0, none⟩)] 124)).alloc (.cells #[.slice (some x) n c] 29)).alloc (.cells #[.slice none 0 0] 29)).alloc (.cells #[.int .i64 0] 3)).alloc (.cells #[.string s] 9)) 9 (.string s)
 simp only [World.size_alloc] at b1 b2 b3 b4 b5
 have hB0 : Below w.heap.size w ((((((w.alloc (.cells #[.pointer (some ⟨g, 0, none⟩)] 124)).alloc (.cells #[.slice (some x) n c] 29)).alloc (.cells #[.slice none 0 0] 29)).alloc (.cells #[.int .i64 0] 3)).alloc (.cells #[.string s] 9)).alloc (.cells #[.string s] 9)) := ((((((Below.refl _ w).alloc (Nat.le_refl _) _).alloc (by simp) _).alloc (by simp; omega) _).alloc (by simp; omega) _).alloc (by simp; omega) _).alloc (by simp; omega) _
 have hz0 : ((((((w.alloc (.cells #[.pointer (some ⟨g, 0, none⟩)] 124)).alloc (.cells #[.slice (some x) n c] 29)).alloc (.cells #[.slice none 0 0] 29)).alloc (.cells #[.int .i64 0] 3)).alloc (.cells #[.string s] 9)).alloc (.cells #[.string s] 9)).heap.size = w.heap.size + 6 := by simp
 clear hx
 generalize ((((((w.alloc (.cells #[.pointer (some ⟨g, 0, none⟩)] 124)).alloc (.cells #[.slice (some x) n c] 29)).alloc (.cells #[.slice none 0 0] 29)).alloc (.cells #[.int .i64 0] 3)).alloc (.cells #[.string s] 9)).alloc (.cells #[.string s] 9)) = W0 at *
 refine wpIn_rangeFunc_ownG rfl (by omega) (gf := 192) (lb := #[.pointer (some ⟨w.heap.size + 1 + 1 + 1 + 1 + 1, 0, none⟩)]) rfl trivial (enters_of Tryz.func192 (by kernel_rfl) rfl)
   (HST.out Fence.wide _ _ W0 trivial rfl (by omega) b5) kpS_t (kpS_b (w := W0)) (Below.refl _ _) (fun _ => rfl)
   (fun pre W => (((((Boxed W w.heap.size 124 (.pointer (some ⟨g, 0, none⟩)) /\ Boxed W (w.heap.size + 1) 29 (.slice (some x) n c)) /\ Boxed W (w.heap.size + 1 + 1) 29 (.slice none 0 0)) /\ Boxed W (w.heap.size + 1 + 1 + 1) 3 (.int .i64 0)) /\ Boxed W (w.heap.size + 1 + 1 + 1 + 1) 9 (.string s)) /\ Hid (∀ y ∈ pre, qfind pl (qkey (ss.drop y.1)) = none)) /\ Below w.heap.size w W)
   (fun cc pre W => (cc = .ret /\ ∃ (q : List (Ix ss.length)) (y : Ix ss.length) (p : Nat) (ao : Option Addr) (zs : List Int), (Boxed W (w.heap.size + 1 + 1) 29 (.slice ao (offs ss y.1 + 2) zs.length) /\ Boxed W (w.heap.size + 1 + 1 + 1) 3 (.int .i64 (offs ss y.1 : Nat))) /\ Own w.heap.size W (.slice ao (offs ss y.1 + 2) zs.length) (offs ss y.1 + 2) zs /\ Hid (pre = q ++ [y] /\ (∀ z ∈ q, qfind pl (qkey (ss.drop z.1)) = none) /\ qfind pl (qkey (ss.drop y.1)) = some p /\ zs.take (offs ss y.1 + 2) = nby (ss.take y.1) ++ [192 + (p : Int) / 256, (p : Int) % 256])) /\ Below w.heap.size w W)
   (OwnFrom.and (OwnFrom.and (OwnFrom.and (OwnFrom.and (OwnFrom.and (OwnFrom.and ((boxed_own _ _ _).from _) ((boxed_own _ _ _).from _)) ((boxed_own _ _ _).from _)) ((boxed_own _ _ _).from _)) ((boxed_own _ _ _).from _)) (ownFrom_pure _ _)) (ownFrom_below (Nat.le_refl _) (by omega)))
   (fun cc => OwnFrom.and (fun pre A W row hs hg hr => by
     obtain ⟨e1, q, y, p, ao, zs, ⟨e2, e3⟩, e4, e5⟩ := hs
     exact ⟨e1, q, y, p, ao, zs, ⟨((boxed_own (β := Unit) (w.heap.size + 1 + 1) 29 (fun _ => .slice ao (offs ss y.1 + 2) zs.length)).from _) () A W row e2 hg hr, ((boxed_own (β := Unit) (w.heap.size + 1 + 1 + 1) 3 (fun _ => .int .i64 (offs ss y.1 : Nat))).from _) () A W row e3 hg hr⟩, own_from_own e4 hg hr, e5⟩) (ownFrom_below (Nat.le_refl _) (by omega)))
   ⟨⟨⟨⟨⟨⟨b0, b1⟩, b2⟩, b3⟩, b4⟩, fun y hy => nomatch hy⟩, hB0⟩
   (fun y => { tmps := #[.pointer (some ⟨g, 0, none⟩), .slice (some x) n c, .pointer (some ⟨w.heap.size, 0, none⟩), .pointer (some ⟨w.heap.size + 1, 0, none⟩), .pointer (some ⟨w.heap.size + 1 + 1, 0, none⟩), .pointer (some ⟨w.heap.size + 1 + 1 + 1, 0, none⟩), .pointer (some ⟨w.heap.size + 1 + 1 + 1 + 1, 0, none⟩), .int .i64 (offs ss y.1 : Nat), undef, undef, undef, undef, .slice (some x) n c, .string s, .string s, .func (.func 192) #[] #[.pointer (some ⟨w.heap.size + 1 + 1 + 1 + 1 + 1, 0, none⟩)], .int .i64 (offs ss y.1 : Nat), undef, undef, undef, undef, undef, undef, undef, undef, undef, undef, undef, undef, undef, undef, undef, undef, undef, undef, undef, undef, undef, undef, undef, undef, undef, undef, undef, undef, undef, undef, undef], defers := [] }) ?assign ?body ?done ?stop
 case assign =>
   intro l y W K hK
   gi_wp2
   exact hK
 case body =>
   rintro l pre ⟨k, hkl⟩ W ⟨⟨⟨⟨⟨⟨hb0, hb1⟩, hb2⟩, hb3⟩, hb4⟩, HC⟩, hB⟩ _
   have d0 := hb0.cell
   have d1 := hb1.cell
   have d4 := hb4.cell
   have f2 := hb2.frozen
   have f3 := hb3.frozen
   have d2 := hb2.cell
   have d3 := hb3.cell
   have dg := cell_below hB hg c2
   have hgW : g < W.heap.size := Nat.lt_of_lt_of_le hg hB.size
   clear b0 b1 b2 b3 b4 b5
   obtain ⟨t, ht⟩ : ∃ t, qkey (ss.drop k) = t := ⟨_, rfl⟩
   have hext := (HT.out k).1
   have htz := (HT.out k).2
   rw [ht] at hext htz
   have HPl : Hid (PlM W mb pl) := HM.out.same (hB.block mb hmb)
   have hlk : ∀ k, (Instr.lookup 161 (.map (some mb)) (.string t) true).run Tryz.prog (W.drewN k) = .ok (.tuple #[.int .i64 ((qfind pl t).getD 0 : Nat), .bool (qfind pl t).isSome]) (W.drewN k) := fun k => (show PlM (W.drewN k) mb pl from HPl.out.same rfl).look t htz
   rw [hsz] at hext
   have HFT : Hid (qkey (ss.drop k) = t) := ht
   have ho : offs ss k + 1 <= n := by rw [<- hsz, <- HS.out, qkey_size]; exact offs_le ss k
   obtain ⟨P, hPo⟩ : ∃ P, offs ss k = P := ⟨_, rfl⟩
   have HPO : Hid (offs ss k = P) := hPo
   rw [hPo] at ho hext ⊢
   have hP1 : (P : Int) <= (s.size : Int) := by omega
   have hP2 : (0 : Int) <= (P : Int) := by omega
   clear hPo ht
   cases hf : qfind pl t with
   | none =>
     rw [hf] at hlk
     simp only [Option.getD_none, Option.isSome_none] at hlk
     have HN : Hid (∀ y ∈ pre ++ [(⟨k, hkl⟩ : Ix ss.length)], qfind pl (qkey (ss.drop y.1)) = none) := by
       intro y hy
       rcases List.mem_append.1 hy with hy | hy
       · exact HC.out y hy
       · simp at hy; subst hy; rw [HFT.out]; exact hf
     clear hf
     gi_wp2
     refine region_round (F := Fence.wide) rfl (by rfl) (by kernel_rfl) (by kernel_rfl) ?_
     repeat (gi_big_quiet_step (fail))
     refine wpQuietIn_nil ?_
     intro _ hw'
     obtain ⟨nq, hw''⟩ := hw'
     subst hw''
     gi_wp2
     exact ⟨⟨Nat.le_refl _, fun k o _ h _ => h⟩, fun v h => h, ⟨⟨⟨⟨⟨hb0, hb1⟩, hb2⟩, hb3⟩, hb4⟩, HN⟩, ⟨hB.os, hB.tape, hB.output, hB.size, hB.block⟩⟩
   | some p =>
     rw [hf] at hlk
     simp only [Option.getD_some, Option.isSome_some] at hlk
     have hp := hP _ _ (qfind_mem hf)
     have HF : Hid (qfind pl t = some p) := hf
     have e1 : ((49152 : Int) + (p : Int)) / 256 = 192 + (p : Int) / 256 := by omega
     have e2 : ((49152 : Int) + (p : Int)) % 256 = (p : Int) % 256 := by omega
     have KP : Hid (∀ W, Calls Tryz.prog 85 #[.int .i64 (49152 + (p : Int))] W fun e w' => e = .returned (.tuple #[.slice (some ⟨W.heap.size, 0, none⟩) 2 2, .int .i64 0]) /\ w' = W.alloc (.cells #[.int .u8 (192 + (p : Int) / 256), .int .u8 ((p : Int) % 256)] 5)) := fun W => by
       have := put16_yes (49152 + (p : Int)) W (by omega) (by omega)
       rw [e1, e2] at this
       exact this
     have HRT : Hid (∀ W, Below w.heap.size w W -> Rd W (some x) (nby (ss.take k))) := fun W hW => by
       have h1 := (HR.out.below hW).cut (a' := some x) 0 P (by rw [hn]; omega) (fun _ b o e => by cases e; rfl)
       have h2 : ((nby ss ++ [0]).drop 0).take P = nby (ss.take k) := by
         rw [List.drop_zero, nby_split ss k, List.append_assoc, List.take_append_of_le_length (by rw [<- HPO.out]; exact Nat.le_refl _), List.take_of_length_le (by rw [<- HPO.out]; exact Nat.le_refl _)]
       rw [h2] at h1
       exact h1
     have hPc : (P : Int) <= (c : Int) := by omega
     have HKN : Hid ((nby (ss.take k)).length = P) := HPO.out
     have s1 : w.heap.size + 1 < W.heap.size := hb1.lt
     have s2 : w.heap.size + 1 + 1 < W.heap.size := hb2.lt
     have s3 : w.heap.size + 1 + 1 + 1 < W.heap.size := hb3.lt
     clear hf e1 e2 HST HT hP hlo hk
     gi_wp2
     refine region_round (F := Fence.wide) rfl (by rfl) (by kernel_rfl) (by kernel_rfl) ?_
     repeat (gi_big_quiet_step (fail))
     refine wpQuietIn_nil ?_
     intro _ hw'
     obtain ⟨nq, hw''⟩ := hw'
     subst hw''
     have hBn : Below w.heap.size w (W.drewN nq) := ⟨hB.os, hB.tape, hB.output, hB.size, hB.block⟩
     have HALL : Hid (∀ w2, w2 = (W.drewN nq).alloc (.cells #[.int .u8 (192 + (p : Int) / 256), .int .u8 ((p : Int) % 256)] 5) -> w2.cell? ⟨w.heap.size + 1, 0, none⟩ = some (.slice (some x) n c) /\ ∃ ao3 w3 y3, (Builtin.append_ #[29, 29] 29 #[.slice (some x) P P, .slice (some ⟨W.heap.size, 0, none⟩) 2 2]).run Tryz.prog w2 = .ok (.slice ao3 (P + 2) y3.length) w3 /\ (Boxed w3 (w.heap.size + 1 + 1) 29 (.slice none 0 0) /\ Boxed w3 (w.heap.size + 1 + 1 + 1) 3 (.int .i64 0)) /\ Hid (Below w.heap.size w w3 /\ Own w2.heap.size w3 (.slice ao3 (P + 2) y3.length) (P + 2) y3 /\ y3.take (P + 2) = nby (ss.take k) ++ [192 + (p : Int) / 256, (p : Int) % 256] /\ w.heap.size <= w2.heap.size /\ KeepsOthers W w3)) := by
       rintro w2 rfl
       have q1 : Below w.heap.size w ((W.drewN nq).alloc (.cells #[.int .u8 (192 + (p : Int) / 256), .int .u8 ((p : Int) % 256)] 5)) := hBn.alloc hBn.size _
       have q2 := new_rd2 (W.drewN nq) (192 + (p : Int) / 256) ((p : Int) % 256) (by omega) (by omega)
       have q3 := (show Boxed (W.drewN nq) _ _ _ from hb2).alloc (.cells #[.int .u8 (192 + (p : Int) / 256), .int .u8 ((p : Int) % 256)] 5)
       have q4 := (show Boxed (W.drewN nq) _ _ _ from hb3).alloc (.cells #[.int .u8 (192 + (p : Int) / 256), .int .u8 ((p : Int) % 256)] 5)
       have q5 : KeepsOthers W ((W.drewN nq).alloc (.cells #[.int .u8 (192 + (p : Int) / 256), .int .u8 ((p : Int) % 256)] 5)) := (show KeepsOthers W (W.drewN nq) from ⟨Nat.le_refl _, fun k o h _ => h⟩).trans (KeepsOthers.alloc _ _)
       refine ⟨((show Boxed (W.drewN nq) _ _ _ from hb1).alloc _).cell, ?_⟩
       generalize (W.drewN nq).alloc (.cells #[.int .u8 (192 + (p : Int) / 256), .int .u8 ((p : Int) % 256)] 5) = w2 at *
       obtain ⟨v3, w3, y3, hrun, hO3, hT3, hB3⟩ := run_append_cut w2 29 x P (nby (ss.take k)) (HRT.out w2 q1) HKN.out (some ⟨W.heap.size, 0, none⟩) 2 2 [192 + (p : Int) / 256, (p : Int) % 256] q2 rfl (by omega) (by omega)
       obtain ⟨ao3, rfl, _⟩ := hO3.addr
       exact ⟨ao3, w3, y3, hrun, ⟨(hB3.block _ q3.lt).trans q3, (hB3.block _ q4.lt).trans q4⟩, q1.trans (hB3.mono q1.size), hO3, hT3, q1.size, q5.trans ⟨hB3.size, fun k o h _ => (hB3.block k (Array.getElem?_eq_some_iff.1 h).1).trans h⟩⟩
     clear hlk hext
     gi_wp2_with (first
       | (refine ⟨trivial, ?_⟩; gi_at_call 85; refine (CallsIn.inRound l (callsIn_wide.2 (KP.out _))).mono ?_; rintro e w2 ⟨rfl, hw2⟩; obtain ⟨D1, ao3, w3, y3, hrun, hg23, H3⟩ := HALL.out w2 hw2; clear hw2; have HG := Lib.hid hg23; have g2c := hg23.1.cell; have g2f := hg23.1.frozen; have g3c := hg23.2.cell; have g3f := hg23.2.frozen; have hl2 := hg23.1.lt; have hl3 := hg23.2.lt; clear hg23)
       | (gi_at_builtin; refine wpListIn_append_eq _ rfl _ _ 29 29 rfl _ _ _ _ rfl rfl hrun ?_))
     have bx2 : Boxed (w3.setCell ⟨w.heap.size + 1 + 1, 0, none⟩ (.slice ao3 (P + 2) y3.length)) (w.heap.size + 1 + 1) 29 (.slice ao3 (P + 2) y3.length) := HG.out.1.set _
     have bx3 : Boxed (w3.setCell ⟨w.heap.size + 1 + 1, 0, none⟩ (.slice ao3 (P + 2) y3.length)) (w.heap.size + 1 + 1 + 1) 3 (.int .i64 0) := HG.out.2.other (by omega) _
     have ow := ((H3.out.2.1.lower H3.out.2.2.2.1).setOther (k := 0) HG.out.1 (by decide) (.slice ao3 (P + 2) y3.length)).setOther (k := 0) bx3 (by decide) (.int .i64 (P : Int))
     have bl := (H3.out.1.setCell (p := ⟨w.heap.size + 1 + 1, 0, none⟩) (by simp; omega) (.slice ao3 (P + 2) y3.length)).setCell (p := ⟨w.heap.size + 1 + 1 + 1, 0, none⟩) (by simp; omega) (.int .i64 (P : Int))
     have HFIN : Hid (pre ++ [(⟨k, hkl⟩ : Ix ss.length)] = pre ++ [⟨k, hkl⟩] /\ (∀ z ∈ pre, qfind pl (qkey (ss.drop z.1)) = none) /\ qfind pl (qkey (ss.drop k)) = some p /\ y3.take (P + 2) = nby (ss.take k) ++ [192 + (p : Int) / 256, (p : Int) % 256]) := ⟨rfl, HC.out, by rw [HFT.out]; exact HF.out, H3.out.2.2.1⟩
     refine ⟨((H3.out.2.2.2.2.trans (KeepsOthers.setCell _ _ _)).trans (KeepsOthers.setCell _ _ _)).from _, ⟨rfl, pre, ⟨k, hkl⟩, p, ao3, y3, ?_⟩, bl⟩
     rw [HPO.out]
     exact ⟨⟨bx2.other (by omega) _, bx3.set _⟩, ow, HFIN⟩
 case done =>
   rintro D xs W hD rfl ⟨⟨⟨⟨⟨⟨hb0, hb1⟩, hb2⟩, hb3⟩, hb4⟩, HC⟩, hB⟩ hK
   clear b0 b1 b2 b3 b4 b5 HST HT hB0
   have d1 := hb1.cell
   have d2 := hb2.cell
   have d3 := hb3.cell
   have f2 := hb2.frozen
   have f3 := hb3.frozen
   have s2 := hb2.lt
   have s3 := hb3.lt
   gi_wp2
   gi_region
   gi_wp2
   have hK2 : (((W.setCell ⟨w.heap.size + 1 + 1, 0, none⟩ (.slice (some x) n c)).setCell ⟨w.heap.size + 1 + 1 + 1, 0, none⟩ (.int .i64 (n : Int))).drew).heap[D]? = some (.deferred (some [])) := ((KeepsOthers.setCell W ⟨w.heap.size + 1 + 1, 0, none⟩ (.slice (some x) n c)).trans (KeepsOthers.setCell _ ⟨w.heap.size + 1 + 1 + 1, 0, none⟩ (.int .i64 (n : Int)))).same D _ hK rfl
   have hall : ∀ j, j < ss.length -> qfind pl (qkey (ss.drop j)) = none := fun j hj => HC.out ⟨j, hj⟩ (iup_mem hj (Nat.le_refl _) hj)
   have hq := short_none pl ss hall
   have hqob : qob pl ss = n := by unfold qob; rw [hq.1, if_neg (by omega), <- hn, <- nby_len]; simp
   have bl : Below w.heap.size w (((W.setCell ⟨w.heap.size + 1 + 1, 0, none⟩ (.slice (some x) n c)).setCell ⟨w.heap.size + 1 + 1 + 1, 0, none⟩ (.int .i64 (n : Int))).drew) := by
     have := (hB.setCell (p := ⟨w.heap.size + 1 + 1, 0, none⟩) (by simp; omega) (.slice (some x) n c)).setCell (p := ⟨w.heap.size + 1 + 1 + 1, 0, none⟩) (by simp; omega) (.int .i64 (n : Int))
     exact ⟨this.os, this.tape, this.output, this.size, this.block⟩
   have k2 : Boxed (((W.setCell ⟨w.heap.size + 1 + 1, 0, none⟩ (.slice (some x) n c)).setCell ⟨w.heap.size + 1 + 1 + 1, 0, none⟩ (.int .i64 (n : Int))).drew) (w.heap.size + 1 + 1) 29 (.slice (some x) n c) := (hb2.set _).other (by omega) _
   have k3 : Boxed (((W.setCell ⟨w.heap.size + 1 + 1, 0, none⟩ (.slice (some x) n c)).setCell ⟨w.heap.size + 1 + 1 + 1, 0, none⟩ (.int .i64 (n : Int))).drew) (w.heap.size + 1 + 1 + 1) 3 (.int .i64 (n : Int)) := (hb3.other (by omega) _).set _
   generalize (((W.setCell ⟨w.heap.size + 1 + 1, 0, none⟩ (.slice (some x) n c)).setCell ⟨w.heap.size + 1 + 1 + 1, 0, none⟩ (.int .i64 (n : Int))).drew) = W5 at *
   have bl2 := bl.trans (belowK_b (w := w) (Nat.le_refl _) W5 D _ (.deferred none) (by omega) hK2 rfl rfl)
   have k2' := (k2.kept (grownBy_putObj' W5 D (.deferred none)) (by simp; omega)).cell
   have k3' := (k3.kept (grownBy_putObj' W5 D (.deferred none)) (by simp; omega)).cell
   refine ⟨by simp, .inl ⟨_, _, rfl, run_takeDeferred hK2, ?_⟩⟩
   refine ⟨.tuple #[.slice (some x) n c, .int .i64 (n : Int)], by simp [results, Tryz.results164, go_sem, k2', k3'], some x, n, c, by rw [hqob], ?_, ?_, by simp, bl2⟩
   · rw [hq.2]; exact HR.out.below bl2
   · rw [hq.2]; exact hn
 case stop =>
   rintro D cc pre W hD ⟨k, hk9, rfl⟩ ⟨⟨rfl, q, y, p, ao, zs, ⟨hb2, hb3⟩, hO, HC⟩, hB⟩ hK
   clear b0 b1 b2 b3 b4 b5 HST HT hB0
   have k2' := (hb2.kept (grownBy_putObj' W D (.deferred none)) (by simp; omega)).cell
   have k3' := (hb3.kept (grownBy_putObj' W D (.deferred none)) (by simp; omega)).cell
   have bl2 := hB.trans (belowK_b (w := w) (Nat.le_refl _) W D _ (.deferred none) (by omega) hK rfl rfl)
   obtain ⟨e1, e2, e3, e4⟩ := HC.out
   obtain ⟨j, rfl⟩ : ∃ j, k = j + 1 := ⟨k - 1, by cases k with | zero => simp [iup] at e1 | succ k => rfl⟩
   have hjl : j < ss.length := hk9
   rw [iup_succ hjl] at e1
   obtain ⟨rfl, ey⟩ := List.append_inj' e1 rfl
   have ey' : y = ⟨j, hjl⟩ := by simpa using ey.symm
   subst ey'
   have hq := short_at pl ss j p (by omega) (fun i hi => e2 ⟨i, by omega⟩ (iup_mem hi (by omega) (by omega))) e3
   have hqob : qob pl ss = offs ss j := by unfold qob; rw [hq.1, if_pos (by omega)]
   have hO2 := own_from_own (B := 0) hO (grownBy_putObj' W D (.deferred none)) (fun r e => by cases e; exact ⟨Nat.zero_le _, _, hK, rfl⟩)
   obtain ⟨ao', e5, hA⟩ := hO2.addr
   cases e5
   have hrd := hA.rdTake (offs ss j + 2)
   simp only at e4
   rw [e4, <- hq.2] at hrd
   have hle := hA.le
   have hqn : (qshort pl ss).length = offs ss j + 2 := by rw [hq.2]; simp [offs]
   gi_wp2
   refine ⟨by simp, .inl ⟨_, _, rfl, run_takeDeferred hK, ?_⟩⟩
   refine ⟨.tuple #[.slice ao (offs ss j + 2) zs.length, .int .i64 (offs ss j : Nat)], by simp [results, Tryz.results164, go_sem, k2', k3'], ao, _, _, by rw [hqob], hrd, hqn, hA.nil, bl2⟩
end Go.Proofs.YteplffhfeoephaaGreat
namespace Go.Proofs.YteplffhfeoephaaGreat
open Go.ChangeShapes Go.WideShapes Go.ChangeAt Go.RowKit Go.Shelf
def lastB (l : List Oper) (o : Oper) : Bool :=
 ((List.range l.length).all fun j => match l[j]? with
   | some x => x.guard.isNone && x.after.all (fun e => !Region.binds .any e || decide (e.on < j))
   | none => true) && o.guard.isNone && o.after.all (fun e => !Region.binds .any e || decide (e.on < l.length)) &&
 (List.range l.length).all (fun j => o.after.any (fun e => Region.binds .any e && e.on == j))
theorem lastB_spec {l : List Oper} {o : Oper} (h : lastB l o = true) :
   (∀ (j : Nat) (x : Oper), l[j]? = some x -> x.guard = none /\ ∀ e ∈ x.after, Region.binds .any e = true -> e.on < j) /\ o.guard = none /\ (∀ e ∈ o.after, Region.binds .any e = true -> e.on < l.length) /\ (∀ j, j < l.length -> ∃ e ∈ o.after, Region.binds .any e = true /\ e.on = j) := by
 unfold lastB at h
 simp only [Bool.and_eq_true] at h
 obtain ⟨⟨⟨h1, h2⟩, h3⟩, h4⟩ := h
 refine ⟨fun j x hx => ?_, by simpa using h2, fun e he hb => ?_, fun j hj => ?_⟩
 · have hj : j < l.length := (List.getElem?_eq_some_iff.1 hx).1
   have := List.all_eq_true.1 h1 j (List.mem_range.2 hj)
   rw [hx] at this
   simp only [Bool.and_eq_true] at this
   refine ⟨by simpa using this.1, fun e he hb => ?_⟩
   have h5 := (Array.all_eq_true_iff_forall_mem.1 this.2) e he
   simpa [hb] using h5
 · have h5 := (Array.all_eq_true_iff_forall_mem.1 h3) e he
   simpa [hb] using h5
 · have := List.all_eq_true.1 h4 j (List.mem_range.2 hj)
   rw [Array.any_eq_true'] at this
   obtain ⟨e, he, h6⟩ := this
   simp only [Bool.and_eq_true, beq_iff_eq] at h6
   exact ⟨e, he, h6.1, h6.2⟩
theorem set_push_last {listed : Array Bool} {m : Nat} (hs : listed.size = m) : (listed.push false).setIfInBounds m true = listed.push true := by
 subst hs
 cases listed with
 | mk xs => simp [List.set_append]
theorem set_push_pre {listed : Array Bool} {i : Nat} (h : i < listed.size) : (listed.push false).setIfInBounds i true = (listed.setIfInBounds i true).push false := by
 cases listed with
 | mk xs =>
   have h' : i < xs.length := by simpa using h
   simp [List.set_append, h']
variable {l : List Oper} {o : Oper}
theorem at_pre {i : Nat} (hi : i < l.length) : (l ++ [o]).toArray[i]? = l.toArray[i]? := by simp [hi, List.getElem?_append_left]
theorem at_last : (l ++ [o]).toArray[l.length]? = some o := by simp
theorem push_getD {listed : Array Bool} {b d : Bool} {j m : Nat} (hs : listed.size = m) (hj : j < m) : (listed.push b).getD j d = listed.getD j d := by
 have h1 : j < listed.size := by omega
 have h2 : j < listed.size + 1 := by omega
 simp [Array.getD, h1, h2, Array.getElem_push_lt h1]
theorem push_last {listed : Array Bool} {b d : Bool} {m : Nat} (hs : listed.size = m) : (listed.push b).getD m d = b := by
 subst hs
 simp [Array.getD]
theorem ready_pre (hl : lastB l o = true) {listed : Array Bool} {b : Bool} (hs : listed.size = l.length) {i : Nat} (hi : i < l.length) : i ∈ Region.ready .any (l ++ [o]).toArray (listed.push b) ↔ i ∈ Region.ready .any l.toArray listed := by
 obtain ⟨h1, h2, h3, h4⟩ := lastB_spec hl
 rw [mem_ready, mem_ready, push_getD hs hi, at_pre hi]
 constructor
 · rintro ⟨e1, x, hx, e2⟩
   have hx' : l[i]? = some x := by simpa using hx
   exact ⟨e1, x, hx, fun e he hb => by have := e2 e he hb; rwa [push_getD hs (by have := (h1 i x hx').2 e he hb; omega)] at this⟩
 · rintro ⟨e1, x, hx, e2⟩
   have hx' : l[i]? = some x := by simpa using hx
   exact ⟨e1, x, hx, fun e he hb => by have := e2 e he hb; rwa [push_getD hs (by have := (h1 i x hx').2 e he hb; omega)]⟩
theorem ready_last (hl : lastB l o = true) {listed : Array Bool} (hs : listed.size = l.length) : l.length ∈ Region.ready .any (l ++ [o]).toArray (listed.push false) ↔ ∀ j, j < l.length -> listed.getD j false = true := by
 obtain ⟨h1, h2, h3, h4⟩ := lastB_spec hl
 rw [mem_ready, push_last hs, at_last]
 constructor
 · rintro ⟨_, x, hx, e2⟩ j hj
   cases hx
   obtain ⟨e, he, hb, rfl⟩ := h4 j hj
   have := e2 e he hb
   rwa [push_getD hs hj] at this
 · intro h
   exact ⟨rfl, o, rfl, fun e he hb => by rw [push_getD hs (h3 e he hb)]; exact h _ (h3 e he hb)⟩
theorem all_listed (hl : lastB l o = true) {listed : Array Bool} (hs : listed.size = l.length) (h : Region.ready .any l.toArray listed = []) : ∀ j, j < l.length -> listed.getD j false = true := by
 obtain ⟨h1, h2, h3, h4⟩ := lastB_spec hl
 intro j
 induction j using Nat.strongRecOn with
 | ind j ih =>
   intro hj
   by_cases e : listed.getD j false = true
   · exact e
   · have hjs : j < listed.size := by omega
     have e' : listed.getD j true = false := by simp [Array.getD, hjs] at e ⊢; exact e
     have : j ∈ Region.ready .any l.toArray listed := by
       rw [mem_ready]
       have hx : l[j]? = some l[j] := List.getElem?_eq_getElem hj
       exact ⟨e', l[j], by simp [hj], fun e he hb => ih _ ((h1 j _ hx).2 e he hb) (by have := (h1 j _ hx).2 e he hb; omega)⟩
     rw [h] at this
     cases this
theorem none_listed (hl : lastB l o = true) {listed : Array Bool} (hs : listed.size = l.length) (h : ∀ j, j < l.length -> listed.getD j false = true) : Region.ready .any l.toArray listed = [] := by
 cases hr : Region.ready .any l.toArray listed with
 | nil => rfl
 | cons i r =>
   have hi : i ∈ Region.ready .any l.toArray listed := by rw [hr]; simp
   obtain ⟨e1, x, hx, _⟩ := mem_ready.1 hi
   have hil : i < l.length := by
     have : l[i]? = some x := by simpa using hx
     exact (List.getElem?_eq_some_iff.1 this).1
   have := h i hil
   have his : i < listed.size := by omega
   simp [Array.getD, his] at e1 this
   rw [e1] at this; cases this
theorem ready_cases (hl : lastB l o = true) {listed : Array Bool} {b : Bool} (hs : listed.size = l.length) {i : Nat} (hi : i ∈ Region.ready .any (l ++ [o]).toArray (listed.push b)) : (i < l.length /\ i ∈ Region.ready .any l.toArray listed) ∨ (i = l.length /\ b = false) := by
 obtain ⟨e1, x, hx, _⟩ := mem_ready.1 hi
 have hx' : (l ++ [o])[i]? = some x := by simpa using hx
 have hlt := (List.getElem?_eq_some_iff.1 hx').1
 simp at hlt
 by_cases e : i < l.length
 · exact .inl ⟨e, (ready_pre hl hs e).1 hi⟩
 · have : i = l.length := by omega
   subst this
   rw [push_last hs] at e1
   exact .inr ⟨rfl, e1⟩
theorem any_last {F : Fence} {n : Nat} {P : Program} {C : World -> Prop} {Q1 : Act -> Prop} {Q : Exit -> Act -> World -> Prop} (hro : F.round = none) (hl : lastB l o = true)
   (hQ : ∀ a w, C w -> Q1 a -> o.wpIn F n P a w (fun a' w' => Q .normal a' w') Q) :
   ∀ (fuel : Nat) (listed : Array Bool) (a : Act) (w : World), listed.size = l.length -> C w -> wpAnyQIn F n P .any l.toArray C Q1 fuel listed a -> wpAnyIn F n P .any (l ++ [o]).toArray Q (fuel + 1) (listed.push false) a w := by
 obtain ⟨h1, h2, h3, h4⟩ := lastB_spec hl
 have hend : ∀ (fuel : Nat) (listed : Array Bool) (a : Act) (w : World), listed.size = l.length -> (∀ j, j < l.length -> listed.getD j false = true) -> Q .normal a w -> wpAnyIn F n P .any (l ++ [o]).toArray Q fuel (listed.push true) a w := by
   intro fuel listed a w hs hall hq
   have hr : Region.ready .any (l ++ [o]).toArray (listed.push true) = [] := by
     cases hr : Region.ready .any (l ++ [o]).toArray (listed.push true) with
     | nil => rfl
     | cons i r =>
       have hi : i ∈ Region.ready .any (l ++ [o]).toArray (listed.push true) := by rw [hr]; simp
       rcases ready_cases hl hs hi with ⟨_, hi'⟩ | ⟨_, hb⟩
       · rw [none_listed hl hs hall] at hi'; cases hi'
       · cases hb
   cases fuel with
   | zero => exact ⟨hr, hq⟩
   | succ fuel => exact ⟨fun _ => hq, fun i hi => by rw [hr] at hi; cases hi⟩
 have hlast : ∀ (fuel : Nat) (listed : Array Bool) (a : Act) (w : World), listed.size = l.length -> C w -> Q1 a -> (∀ j, j < l.length -> listed.getD j false = true) -> wpOpIn F n P (l ++ [o]).toArray Q l.length (wpAnyIn F n P .any (l ++ [o]).toArray Q fuel ((listed.push false).setIfInBounds l.length true)) a w := by
   intro fuel listed a w hs hC hq hall
   unfold wpOpIn
   rw [at_last]
   have hw : Region.wanted o (yielded (l ++ [o]).toArray a.tmps) = true := by simp [Region.wanted, h2]
   simp only [hw, if_true]
   refine Oper.wpIn_mono (fun a' w' h' => ?_) (hQ a w hC hq)
   have e : (listed.push false).setIfInBounds l.length true = listed.push true := set_push_last hs
   rw [e]
   exact hend fuel listed a' w' hs hall h'
 intro fuel
 induction fuel with
 | zero =>
   intro listed a w hs hC h
   have hall := all_listed hl hs h.1
   refine ⟨fun hr => ?_, fun i hi => ?_⟩
   · have := (ready_last hl hs).2 hall
     rw [hr] at this; cases this
   · rcases ready_cases hl hs hi with ⟨_, hi'⟩ | ⟨rfl, _⟩
     · rw [h.1] at hi'; cases hi'
     · exact hlast 0 listed a w hs hC h.2 hall
 | succ fuel ih =>
   intro listed a w hs hC h
   refine ⟨fun hr => ?_, fun i hi => ?_⟩
   · have hr' : Region.ready .any l.toArray listed = [] := by
       cases hr2 : Region.ready .any l.toArray listed with
       | nil => rfl
       | cons i r =>
         have hi : i ∈ Region.ready .any l.toArray listed := by rw [hr2]; simp
         obtain ⟨_, x, hx, _⟩ := mem_ready.1 hi
         have hil : i < l.length := by
           have : l[i]? = some x := by simpa using hx
           exact (List.getElem?_eq_some_iff.1 this).1
         have := (ready_pre (b := false) hl hs hil).2 hi
         rw [hr] at this; cases this
     have := (ready_last hl hs).2 (all_listed hl hs hr')
     rw [hr] at this; cases this
   · rcases ready_cases hl hs hi with ⟨hil, hi'⟩ | ⟨rfl, _⟩
     · have hx := h.2 i hi'
       unfold qOpIn at hx
       unfold wpOpIn
       rw [at_pre hil]
       have hxo : l.toArray[i]? = some l[i] := by simp [hil]
       rw [hxo] at hx ⊢
       simp only at hx ⊢
       have hgd := (h1 i l[i] (List.getElem?_eq_getElem hil)).1
       have hw1 : Region.wanted l[i] (yielded l.toArray a.tmps) = true := by simp [Region.wanted, hgd]
       have hw2 : Region.wanted l[i] (yielded (l ++ [o]).toArray a.tmps) = true := by simp [Region.wanted, hgd]
       simp only [hw1, if_true] at hx
       simp only [hw2, if_true]
       refine Oper.wpIn_of_quiet hro hC (fun a' w' hC' hK => ?_) hx.1 hx.2
       have e : (listed.push false).setIfInBounds i true = (listed.setIfInBounds i true).push false := set_push_pre (by omega)
       rw [e]
       exact ih (listed.setIfInBounds i true) a' w' (by simpa using hs) hC' hK
     · have hall := (ready_last hl hs).1 hi
       exact hlast (fuel + 1) listed a w hs hC (h.1 (none_listed hl hs hall)) hall
theorem region_round_last {F : Fence} {n r id : Nat} {P : Program} {Q : Exit -> Act -> World -> Prop} {a : Act} {w : World} {l : List Oper} {o : Oper} (hro : F.round = none) (hl : lastB l o = true) (hd : (l ++ [o]).all noDefer = true) (hm : P.follows .mixedOrders = true) (hB : Region.lexB .any l.toArray = true)
   (h : wpQuietIn F n P l.toArray (fun w' => ∃ k, w' = w.drewN k) (fun a' => ∀ w', (∃ k, w' = w.drewN k) -> o.wpIn F n P a' w' (fun a'' w'' => Q .normal a'' w'') Q) l a) : (Code.region id (l ++ [o]).toArray true).wpIn (F.inRound r) n P Q a w := by
 simp only [Region.lexB, Bool.and_eq_true] at hB
 refine wpIn_region_any hm (wpAny_round ?_ _ _ _ _ ?_)
 · intro i x ho
   have : (l ++ [o])[i]? = some x := by simpa using ho
   exact List.all_eq_true.1 hd x (List.mem_of_getElem? this)
 · have h1 := wpAnyQIn_lex (F := F) (n := n) (P := P) (C := fun w' => ∃ k, w' = w.drewN k) (md := .any) (ops := l.toArray) (Q := fun a' => ∀ w', (∃ k, w' = w.drewN k) -> o.wpIn F n P a' w' (fun a'' w'' => Q .normal a'' w'') Q) hB.1 l 0 (Array.replicate l.toArray.size false) a (by simp) (by simpa using hB.2) h
   have h2 := any_last (F := F) (n := n) (P := P) (C := fun w' => ∃ k, w' = w.drewN k) (Q1 := fun a' => ∀ w', (∃ k, w' = w.drewN k) -> o.wpIn F n P a' w' (fun a'' w'' => Q .normal a'' w'') Q) (Q := Q) hro hl (fun a w' hC hq => hq w' hC) l.length (Array.replicate l.length false) a { w with drawn := w.drawn + 1 } (by simp) ⟨1, rfl⟩ (by simpa using h1)
   have e : (Array.replicate l.length false).push false = Array.replicate (l ++ [o]).toArray.size false := by
     simp [Array.replicate_succ]
   rw [e] at h2
   simpa using h2
end Go.Proofs.YteplffhfeoephaaGreat
namespace Go.Proofs.YteplffhfeoephaaGreat
theorem iup_mem0 {n : Nat} : ∀ {k j : Nat}, j < k -> k <= n -> ∀ h : j < n, (⟨j, h⟩ : Ix n) ∈ iup n k
 | 0, _, h, _, _ => by omega
 | k + 1, j, hj, hk, h => by
   rw [iup_succ (by omega)]
   by_cases e : j = k
   · subst e; simp
   · exact List.mem_append_left _ (iup_mem0 (by omega) (by omega) h)
def kstep (start : Nat) (ss : List ByteArray) (P : List (ByteArray × Nat)) (x : Nat) : List (ByteArray × Nat) :=
 if (qfind P (qkey (ss.drop x))).isSome then P else (qkey (ss.drop x), start + offs ss x) :: P
def kf (pl : List (ByteArray × Nat)) (start : Nat) (ss : List ByteArray) (pre : List (Ix ss.length)) : List (ByteArray × Nat) := pre.foldl (fun P x => kstep start ss P x.1) pl
theorem kf_snoc (pl : List (ByteArray × Nat)) (start : Nat) (ss : List ByteArray) (pre : List (Ix ss.length)) (x : Ix ss.length) : kf pl start ss (pre ++ [x]) = kstep start ss (kf pl start ss pre) x.1 := by simp [kf]
theorem kf_len (pl : List (ByteArray × Nat)) (start : Nat) (ss : List ByteArray) (pre : List (Ix ss.length)) : (kf pl start ss pre).length <= pl.length + pre.length := by
 unfold kf
 induction pre generalizing pl with
 | nil => simp
 | cons x r ih =>
   rw [List.foldl_cons]
   refine Nat.le_trans (ih _) ?_
   unfold kstep
   split <;> simp <;> omega
theorem kf_iup (pl : List (ByteArray × Nat)) (start : Nat) (ss : List ByteArray) : ∀ k, k <= ss.length -> (∀ j, j < k -> start + offs ss j < 16384) -> kf pl start ss (iup ss.length k) = qkeep pl start k ss
 | 0, _, _ => by simp [iup, kf, qkeep]
 | k + 1, hk, h => by
   have hkl : k < ss.length := hk
   rw [iup_succ hkl, kf_snoc, kf_iup pl start ss k (by omega) (fun j hj => h j (by omega)), keep_snoc pl start k ss hkl, if_neg (by have := h k (by omega); omega)]
   rfl
theorem keep_stop (pl : List (ByteArray × Nat)) (start : Nat) (ss : List ByteArray) (j : Nat) (h : 16384 <= start + offs ss j) : ∀ d, j + d <= ss.length -> qkeep pl start (j + d) ss = qkeep pl start j ss
 | 0, _ => rfl
 | d + 1, hd => by
   have hlt : offs ss j <= offs ss (j + d) := by
     by_cases e : d = 0
     · subst e; exact Nat.le_refl _
     · exact Nat.le_of_lt (offs_lt (by omega) (by omega))
   rw [<- Nat.add_assoc, keep_snoc pl start (j + d) ss (by omega), if_pos (by omega)]
   exact keep_stop pl start ss j h d (by omega)
theorem kf_all (pl : List (ByteArray × Nat)) (start m own : Nat) (ss : List ByteArray) (hm : m <= ss.length) (hown : ∀ k, k < ss.length -> (k < m ↔ offs ss k < own)) (h : ∀ z ∈ iup ss.length ss.length, offs ss z.1 < own /\ start + offs ss z.1 < 16384) : kf pl start ss (iup ss.length ss.length) = qkeep pl start m ss := by
 have hz : ∀ j, j < ss.length -> offs ss j < own /\ start + offs ss j < 16384 := fun j hj => h ⟨j, hj⟩ (iup_mem0 hj (Nat.le_refl _) hj)
 have e : m = ss.length := by
   by_cases e : m < ss.length
   · have := (hown m e).2 (hz m e).1; omega
   · omega
 rw [kf_iup pl start ss _ (Nat.le_refl _) (fun j hj => (hz j hj).2), e]
theorem kf_part (pl : List (ByteArray × Nat)) (start m own : Nat) (ss : List ByteArray) (hm : m <= ss.length) (hown : ∀ k, k < ss.length -> (k < m ↔ offs ss k < own)) (k : Nat) (hk : k < ss.length) (h : ∀ z ∈ iup ss.length k, offs ss z.1 < own /\ start + offs ss z.1 < 16384) (hx : own <= offs ss k ∨ 16384 <= start + offs ss k) : kf pl start ss (iup ss.length k) = qkeep pl start m ss := by
 have hz : ∀ j, j < k -> offs ss j < own /\ start + offs ss j < 16384 := fun j hj => h ⟨j, by omega⟩ (iup_mem0 hj (by omega) (by omega))
 rw [kf_iup pl start ss k (by omega) (fun j hj => (hz j hj).2)]
 have hkm : k <= m := by
   by_cases e : m < k
   · have := (hown m (by omega)).2 (hz m e).1; omega
   · omega
 rcases hx with hx | hx
 · have : ¬ k < m := fun h' => by have := (hown k hk).1 h'; omega
   have e : k = m := by omega
   rw [e]
 · have := keep_stop pl start ss k hx (m - k) (by omega)
   rw [show k + (m - k) = m by omega] at this
   exact this.symm
end Go.Proofs.YteplffhfeoephaaGreat
namespace Go.Proofs.YteplffhfeoephaaGreat
open Go.ChangeShapes Go.WideShapes Go.ChangeAt Go.RowKit Go.Maps Go.Shelf
attribute [local go_sem] Oper.semAt_some
theorem wpIn_mapUpdate_eq {F : Fence} {n : Nat} {P : Program} {o : Oper} {a : Act} {w w' : World} {K : Act -> World -> Prop} {Q : Exit -> Act -> World -> Prop} (t : TypeId) (m x v : Operand) (hop : o.op = Op.mapUpdate t m x v) (mv xv vv : Value) (hm : a.eval m = mv) (hx : a.eval x = xv) (hv : a.eval v = vv)
   (hrun : (Instr.mapUpdate t mv xv vv).run P w = .ok () w') (hK : K (a.put o.dst undef) w') : o.wpIn F n P a w K Q := by
 unfold Oper.wpIn
 refine ⟨by simp [Oper.about, hop], ?_⟩
 rw [Oper.semAt_plain F _ _ (by rw [hop]; intro c hc'; cases hc')]
 simp [execOp, hop, hm, hx, hv, hrun, Result.andThen]
 exact hK
theorem PlM.store {W : World} {mb : Nat} {pl : List (ByteArray × Nat)} (h : PlM W mb pl) (t : ByteArray) (ht : t.size <= 255) (p : Nat) (hp : p <= 70000) (hf : qfind pl t = none) (hl : pl.length <= 200000) :
   ∃ W', (Instr.mapUpdate 161 (.map (some mb)) (.string t) (.int .i64 (p : Int))).run Tryz.prog W = .ok () W' /\ PlM W' mb ((t, p) :: pl) /\ W.grownBy W' (some mb) := by
 obtain ⟨M, h1, h2⟩ := h
 have hkey : keyOf Tryz.prog 9 (.string t) = some (.string t.data.toList) := Go.WideMaps.keyOf_string_mk Tryz.underlying9 (by unfold maxLen; omega)
 obtain ⟨W', hrun, h3, h4⟩ := h1.store law9 Tryz.underlying161 (by unfold maxLen; omega) hkey (plainElem_int (e := 3) (q := .i64) (a := (p : Int)) Tryz.underlying3 (WalkArith.wf_i64 (by omega)))
 exact ⟨W', hrun, PlM.put t p h1.isMap hf h2 h3, h4.grown⟩
theorem ownFrom_grown {β : Type} {w : World} {mb B : Nat} (hB : w.heap.size <= B) : OwnFrom (β := β) B (fun _ W => w.grownBy W (some mb)) := by
 intro s A W row hs hg hr
 exact ⟨hg.os.trans hs.os, hg.tape.trans hs.tape, hg.output.trans hs.output, Nat.le_trans hs.size hg.size, fun k hk hne => (hg.block k (Nat.lt_of_lt_of_le hk hs.size) (fun e => by have := (hr k e.symm).1; omega)).trans (hs.block k hk hne)⟩
theorem ownFrom_plm {β : Type} {mb B : Nat} {f : β -> List (ByteArray × Nat)} (hB : mb < B) : OwnFrom (β := β) B (fun s W => PlM W mb (f s)) := by
 intro s A W row hs hg hr
 obtain ⟨es, c, e⟩ := hs.isMap
 exact hs.same (hg.block mb (box_lt e) (fun e => by have := (hr mb e.symm).1; omega))
theorem grown_all {w A W : World} {mb : Nat} (h : w.grownBy A (some mb)) (hg : A.grownBy W (some mb)) : w.grownBy W (some mb) :=
 ⟨hg.os.trans h.os, hg.tape.trans h.tape, hg.output.trans h.output, Nat.le_trans h.size hg.size, fun k hk hne => (hg.block k (Nat.lt_of_lt_of_le hk h.size) hne).trans (h.block k hk hne)⟩
theorem grown_far {w A W : World} {mb D : Nat} (h : w.grownBy A (some mb)) (hg : A.grownBy W (some D)) (hD : w.heap.size <= D) : w.grownBy W (some mb) :=
 ⟨hg.os.trans h.os, hg.tape.trans h.tape, hg.output.trans h.output, Nat.le_trans h.size hg.size, fun k hk hne => (hg.block k (Nat.lt_of_lt_of_le hk h.size) (fun e => by simp only [Option.some.injEq] at e; omega)).trans (h.block k hk hne)⟩
end Go.Proofs.YteplffhfeoephaaGreat
namespace Go.Proofs.YteplffhfeoephaaGreat
open Go.ChangeShapes Go.WideShapes Go.ChangeAt Go.RowKit Go.Maps
set_option maxHeartbeats 1000000 in
theorem pbytes_bad (a : Option Addr) (n c : Nat) (ss : List ByteArray) (w : World) (h : Arg w a n ss) (hn : n <= 8796093021952) (hk : ¬ nck ss = 0) :
   Calls Tryz.prog 163 #[.slice a n c] w fun e w' => e = .returned (.tuple #[.slice none 0 0, .int .i64 (nck ss)]) /\ w' = w := by
 have KC := Lib.hid (pcheckA_wide a n c ss w h.rd h.len (fun ho => by have := labs_nsz ho; have := h.len; omega) h.n63 h.z63)
 generalize nck ss = q at *
 have hq : (q != 0) = true := bne_iff_ne.2 hk
 clear h hk
 go_enter Tryz.func163, Tryz.ntmps163
 go_wp2_with fail
 refine KC.out.mono ?_
 rintro e w1 ⟨rfl, rfl⟩
 go_wp2
 go_ret2
 exact ⟨rfl, rfl⟩
def wnm (tx : List Int) (pl : List (ByteArray × Nat)) (ss : List ByteArray) (back : Bool) : Int × List Int × List (ByteArray × Nat) :=
 if nck ss = 0 then
   if 65535 < tx.length + (qshort (if back then pl else []) ss).length then (3, tx, pl)
   else (0, tx ++ qshort (if back then pl else []) ss, qkeep pl tx.length (qown (if back then pl else []) ss) ss)
 else (nck ss, tx, pl)
theorem qob_le (pl : List (ByteArray × Nat)) (ss : List ByteArray) (h : nck ss = 0) : qob pl ss <= 255 := by
 have h1 := (nck_small h).1
 unfold qob
 split
 · have := offs_le ss (qown pl ss); omega
 · exact h1
end Go.Proofs.YteplffhfeoephaaGreat
namespace Go.Proofs.YteplffhfeoephaaGreat
open Go.ChangeShapes Go.WideShapes Go.ChangeAt Go.RowKit Go.Maps
def tbk (w : World) (g : Nat) : Option Nat := match w.cell? ⟨g, 1, none⟩ with | some v => v.ownBlock | none => none
theorem tbk_same {w w' : World} {g : Nat} (h : w'.heap[g]? = w.heap[g]?) : tbk w' g = tbk w g := by
 unfold tbk World.cell?
 simp only [h]
theorem tbk_box {w : World} {g : Nat} {p v q : Value} {t : TypeId} (h : w.heap[g]? = some (.cells #[p, v, q] t)) : tbk w g = v.ownBlock := by
 unfold tbk
 rw [box_cell h 1 v rfl]
structure Fx (g : Nat) (w w' : World) : Prop where
 size : w.heap.size <= w'.heap.size
 row : ∀ (j : Nat) (cs : Array Value) (fr : Nat × Nat), w.heap[j]? = some (Obj.cells cs 5 fr) -> tbk w g ≠ some j -> w'.heap[j]? = w.heap[j]?
 tpl : tbk w' g = tbk w g ∨ ∃ k, w.heap.size <= k /\ tbk w' g = some k
theorem Fx.refl (g : Nat) (w : World) : Fx g w w := ⟨Nat.le_refl _, fun _ _ _ _ _ => rfl, .inl rfl⟩
theorem Fx.trans {g : Nat} {a b c : World} (h : Fx g a b) (k : Fx g b c) : Fx g a c := by
 refine ⟨Nat.le_trans h.size k.size, fun j cs fr hj hn => ?_, ?_⟩
 · have e := h.row j cs fr hj hn
   refine (k.row j cs fr (e.trans hj) ?_).trans e
   rcases h.tpl with e2 | ⟨m, hm, e2⟩
   · rw [e2]; exact hn
   · rw [e2]
     intro e3
     injection e3 with e3
     have := box_lt hj
     omega
 · rcases k.tpl with e2 | ⟨m, hm, e2⟩
   · rw [e2]; exact h.tpl
   · exact .inr ⟨m, Nat.le_trans h.size hm, e2⟩
theorem Fx.of {g : Nat} {w w' : World} (h : Below w.heap.size w w') (hg : g < w.heap.size) : Fx g w w' :=
 ⟨h.size, fun j cs fr hj _ => h.block j (box_lt hj), .inl (tbk_same (h.block g hg))⟩
theorem Fx.stored {g : Nat} {w1 w3 : World} {p v v' q p' q' : Value} (hb : w1.heap[g]? = some (.cells #[p, v, q] 163)) (hb' : w3.heap[g]? = some (.cells #[p', v', q'] 163)) (hs : w1.heap.size <= w3.heap.size)
   (hj : ∀ j, j < w1.heap.size -> j ≠ g -> v.ownBlock ≠ some j -> w3.heap[j]? = w1.heap[j]?) (hl : v'.ownBlock = v.ownBlock ∨ v'.ownBlock = some w1.heap.size) : Fx g w1 w3 := by
 refine ⟨hs, fun j cs fr h hn => ?_, ?_⟩
 · rw [tbk_box hb] at hn
   refine hj j (box_lt h) ?_ hn
   rintro rfl
   rw [hb] at h
   cases h
 · rw [tbk_box hb, tbk_box hb']
   rcases hl with e | e
   · exact .inl e
   · exact .inr ⟨_, Nat.le_refl _, e⟩
def NmPostx (B g : Nat) (r : Int × List Int × List (ByteArray × Nat)) (w : World) (e : Ending) (w' : World) : Prop := e = .returned (.int .i64 r.1) /\ Hid (Wr B w' g r.2.1 r.2.2 /\ Fr B w w' /\ Fx g w w')
theorem run_append_blk2 (w : World) (B : Nat) (ty : TypeId) (v : Value) (n : Nat) (zs : List Int) (hown : Own B w v n zs)
   (ao : Option Addr) (m c : Nat) (news : List Int) (hr : Rd w ao news) (hl : news.length = m) (hc : ao = none -> c = 0) (hb : n + m <= 140737488355328) (hB : B <= w.heap.size) :
   ∃ v' w' zs', (Builtin.append_ #[29, 29] ty #[v, .slice ao m c]).run Tryz.prog w = .ok v' w' /\ Own B w' v' (n + m) zs' /\ zs'.take (n + m) = zs.take n ++ news /\ w.grownBy w' v.ownBlock /\ (v'.ownBlock = v.ownBlock ∨ v'.ownBlock = some w.heap.size) := by
 obtain ⟨i, hi, hz0, hz1, hz2⟩ := info_parts Tryz.info5
 cases ao with
 | none =>
   have hnews : news = [] := by
     rcases hr.1 with h1 | ⟨b, o, h, _⟩
     · exact h1
     · cases h
   subst hnews; subst hl
   rw [hc rfl]
   refine ⟨v, w, zs, ?_, hown, by simp, World.grownBy.refl _ _, .inl rfl⟩
   rcases hown with ⟨rfl, rfl, rfl⟩ | ⟨g, rfl, hBg, hblk, hn, hm⟩
   · simp [Builtin.append_, run_underlying Tryz.underlying29, sizeOf, typeInfo, hi, Builtin.lenOf, Builtin.firstCells]
   · simp [Builtin.append_, run_underlying Tryz.underlying29, sizeOf, typeInfo, hi, Builtin.lenOf, Builtin.firstCells, hn, storeCells]
 | some a =>
   have hcs := rd_cells hr
   have hml : n + m <= maxLen := by simp only [maxLen]; omega
   have hlm : (news.map (Value.int .u8)).length = m * i.size := by rw [hz1]; simp [hl]
   have grown : ∀ (old : Nat), old < n + m -> ∀ (row : Option Nat), (n = 0 ∨ n <= zs.length) ->
       ∃ zs' : List Int, (.cells (((zs.take n).map (Value.int .u8)).toArray ++ (news.map (Value.int .u8)).toArray ++ Builtin.zeroCells (Value.int .u8 0).cells (grownCap w (n + m) old 5 - (n + m))) 5 : Obj) = .cells (zs'.map (Value.int .u8)).toArray 5 (0, 0) /\
       zs'.length = grownCap w (n + m) old 5 /\ zs'.take (n + m) = zs.take n ++ news /\ (∀ z ∈ zs', 0 <= z /\ z <= 255) := by
     intro old ho row hn
     have hge := grownCap_ge w (n + m) old 5
     have hzb : ∀ z ∈ zs, 0 <= z /\ z <= 255 := by
       rcases hown with ⟨_, _, rfl⟩ | ⟨g, _, _, hblk, _⟩
       · intro z hz; cases hz
       · exact hblk.2
     have htl : (zs.take n).length = n := by
       rcases hn with rfl | hn
       · simp
       · simp; omega
     refine ⟨zs.take n ++ news ++ List.replicate (grownCap w (n + m) old 5 - (n + m)) 0, ?_, ?_, ?_, ?_⟩
     · rw [zeros_eq]; simp
     · simp only [List.length_append, htl, hl, List.length_replicate]; omega
     · rw [List.take_append_of_le_length (by simp only [List.length_append, htl, hl]; omega)]
       exact List.take_of_length_le (by simp only [List.length_append, htl, hl]; omega)
     · intro z hz
       simp only [List.mem_append, List.mem_replicate] at hz
       rcases hz with (hz | hz) | ⟨_, rfl⟩
       · exact hzb z (List.mem_of_mem_take hz)
       · exact hr.2 z hz
       · omega
   have fresh : ∀ (old : Nat), old < n + m -> ∀ zs' : List Int, zs'.length = grownCap w (n + m) old 5 -> (∀ z ∈ zs', 0 <= z /\ z <= 255) ->
       Own B (w.drew.alloc (.cells (zs'.map (Value.int .u8)).toArray 5 (0, 0))) (.slice (some ⟨w.heap.size, 0, none⟩) (n + m) (grownCap w (n + m) old 5)) (n + m) zs' := by
     intro old ho zs' hzl hzb
     refine .inr ⟨w.heap.size, by rw [hzl], hB, ⟨heap_alloc_new w.drew _, hzb⟩, ?_, ?_⟩
     · rw [hzl]; exact grownCap_ge w (n + m) old 5
     · rw [hzl]; exact grownCap_le_maxLen w (n + m) old 5 hml
   rcases hown with ⟨rfl, rfl, rfl⟩ | ⟨g, rfl, hBg, hblk, hn, hm⟩
   · by_cases hm0 : m = 0
     · subst hm0
       have hnews : news = [] := List.eq_nil_of_length_eq_zero hl
       subst hnews
       refine ⟨.slice none 0 0, w, [], ?_, .inl ⟨rfl, rfl, rfl⟩, by simp, World.grownBy.refl _ _, .inl rfl⟩
       simp [Builtin.append_, run_underlying Tryz.underlying29, sizeOf, typeInfo, hi, Builtin.lenOf, Builtin.firstCells, loadCells, loadCellsFrom]
     · have hr' := run_append_nil (P := Tryz.prog) w 29 ty 5 i _ Tryz.underlying29 hi hz0 a m c (news.map (Value.int .u8)) hlm hcs (by omega) (by omega) (by rw [hz2]; omega)
       obtain ⟨zs', e1, e2, e3, e4⟩ := grown 0 (by omega) none (.inl rfl)
       have hf := fresh 0 (by omega) zs' e2 e4
       simp only [Nat.zero_add, List.take_nil, List.map_nil, List.nil_append, Array.empty_append, List.take_zero] at e1 e2 e3 hf ⊢
       rw [e1] at hr'
       exact ⟨_, _, zs', hr', hf, e3, ⟨rfl, rfl, rfl, by simp, fun k hk _ => Below.heap_alloc w.drew _ k hk⟩, .inr rfl⟩
   · by_cases hroom : n + m <= zs.length
     · have hr' := run_append_room (P := Tryz.prog) w 29 ty 5 i Tryz.underlying29 hi g n zs.length _ hblk.1 a m c (news.map (Value.int .u8)) hlm hcs (ints_oneCell _ _) hroom (by rw [hz1]; simp [hl]; omega)
       have e : (((zs.map (Value.int .u8)).toArray.toList.take (n * i.size)) ++ news.map (Value.int .u8) ++ (zs.map (Value.int .u8)).toArray.toList.drop (n * i.size + (news.map (Value.int .u8)).length)).toArray = ((zs.take n ++ news ++ zs.drop (n + m)).map (Value.int .u8)).toArray := by
         rw [hz1]; simp [hl]
       rw [e] at hr'
       have hlen : (zs.take n ++ news ++ zs.drop (n + m)).length = zs.length := by simp [hl]; omega
       refine ⟨_, _, zs.take n ++ news ++ zs.drop (n + m), hr', .inr ⟨g, by rw [hlen], hBg, ⟨setRow_heap w g _ _ 5 _ hblk.1, ?_⟩, by rw [hlen]; exact hroom, by rw [hlen]; exact hm⟩, ?_,
         ⟨rfl, rfl, rfl, by simp, fun k _ hk => setRow_other w g k _ (fun e => hk (by simp [Value.ownBlock, e]))⟩, .inl rfl⟩
       · intro z hz
         simp only [List.mem_append] at hz
         rcases hz with (hz | hz) | hz
         · exact hblk.2 z (List.mem_of_mem_take hz)
         · exact hr.2 z hz
         · exact hblk.2 z (List.mem_of_mem_drop hz)
       · rw [List.take_append_of_le_length (by simp [hl]; omega)]
         exact List.take_of_length_le (by simp [hl]; omega)
     · have holds : ∀ j u, ((zs.take n).map (Value.int .u8))[j]? = some u -> w.cell? ((⟨g, 0, none⟩ : Addr).add j) = some u := rd_cells (hblk.rd n)
       have hr' := run_append_grow (P := Tryz.prog) w 29 ty 5 i _ Tryz.underlying29 hi hz0 ⟨g, 0, none⟩ n zs.length ((zs.take n).map (Value.int .u8)) (by rw [hz1]; simp; omega) holds a m c (news.map (Value.int .u8)) hlm hcs (by omega) (by simp only [maxLen] at hml; omega) (growslice_fits (by omega) (by rw [hz2]; omega))
       obtain ⟨zs', e1, e2, e3, e4⟩ := grown zs.length (by omega) none (.inr hn)
       have hf := fresh zs.length (by omega) zs' e2 e4
       rw [e1] at hr'
       exact ⟨_, _, zs', hr', hf, e3, ⟨rfl, rfl, rfl, by simp, fun k hk _ => Below.heap_alloc w.drew _ k hk⟩, .inr rfl⟩
theorem wpList_append_blk2 (w : World) {ops : Array Oper} {rest : List Oper} {o : Oper} {a : Act} {Q : Exit -> Act -> World -> Prop} (hgd : o.guard = none) (s x : Operand)
   (ho : o.op = .call { callee := .builtin .append, args := #[s, x], argTypes := #[29, 29] }) (B : Nat) (v : Value) (n : Nat) (zs : List Int) (hs : a.eval s = v) (hown : Own B w v n zs)
   (ao : Option Addr) (m c : Nat) (news : List Int) (hx : a.eval x = .slice ao m c) (hr : Rd w ao news) (hl : news.length = m) (hc : ao = none -> c = 0) (hb : n + m <= 140737488355328) (hB : B <= w.heap.size)
   (h : ∀ v' w' zs', Hid (Own B w' v' (n + m) zs') -> Hid (zs'.take (n + m) = zs.take n ++ news) -> w.grownBy w' v.ownBlock -> (v'.ownBlock = v.ownBlock ∨ v'.ownBlock = some w.heap.size) -> wpList Tryz.prog ops Q rest (a.put o.dst v') w') : wpList Tryz.prog ops Q (o :: rest) a w := by
 refine wpList_plain hgd fun K hK => ?_
 obtain ⟨v', w', zs', hrun, h2, h3, h4, h5⟩ := run_append_blk2 w B o.type v n zs hown ao m c news hr hl hc hb hB
 unfold Oper.wp execOp
 simp only [ho, resolve, invoke, builtin, Sem.run_bind, Sem.run_pure, Result.andThen_ok, List.map_toArray, List.map_cons, List.map_nil, hs, hx, hrun]
 exact hK _ _ (h v' w' zs' h2 h3 h4 h5)
theorem Wr1.keptx {B : Nat} {w w' : World} {g : Nat} {tx : List Int} {pl pl' : List (ByteArray × Nat)} {v : Value} {ys : List Int} {mb : Nat} (h : Wr1 B w g tx pl v ys mb) (hg : w.grownBy w' (some mb)) (hm : PlM w' mb pl') (hB : B <= w.heap.size) : Wr1 B w' g tx pl' v ys mb /\ Fr B w w' /\ Fx g w w' := by
 obtain ⟨es, c, e⟩ := h.map.isMap
 refine ⟨⟨?_, h.gB, h.mB, ?_, h.txt, hm⟩, ⟨?_, ?_⟩, ?_⟩
 · refine (hg.block g (box_lt h.box) (fun e2 => ?_)).trans h.box
   simp only [Option.some.injEq] at e2
   subst e2; rw [h.box] at e; cases e
 · refine h.own.keepAt (fun k hk hl => hg.block k hl (fun e2 => ?_))
   simp only [Option.some.injEq] at e2
   subst e2
   obtain ⟨_, cs, e1⟩ := h.own.blk5 _ hk
   rw [e1] at e; cases e
 · exact (Below.refl B w).grown hg hB (fun k e2 => by simp only [Option.some.injEq] at e2; subst e2; exact h.mB)
 · intro j cs t fr hj _ _
   refine hg.block j (box_lt hj) (fun e2 => ?_)
   simp only [Option.some.injEq] at e2
   subst e2; rw [hj] at e; cases e
 · have hbx : w'.heap[g]? = w.heap[g]? := hg.block g (box_lt h.box) (fun e2 => by
     simp only [Option.some.injEq] at e2
     subst e2; rw [h.box] at e; cases e)
   refine ⟨hg.size, fun j cs fr hj _ => hg.block j (box_lt hj) (fun e2 => ?_), .inl (tbk_same hbx)⟩
   simp only [Option.some.injEq] at e2
   subst e2; rw [hj] at e; cases e
set_option maxHeartbeats 1000000 in
theorem wbytes1x (B g : Nat) (tx : List Int) (pl : List (ByteArray × Nat)) (v : Value) (ys : List Int) (mb : Nat) (a : Option Addr) (m c : Nat) (zs : List Int) (w : World) (h : Wr1 B w g tx pl v ys mb) (hB : B <= w.heap.size) (ht : tx.length <= 65535) (hr : Rd w a zs) (hl : zs.length = m) (hc : a = none -> c = 0) (hm : m <= 140737488355328) :
   Calls Tryz.prog 111 #[.pointer (some ⟨g, 0, none⟩), .slice a m c] w fun e w' => e = .returned (.int .i64 (if 65535 < tx.length + m then 3 else 0)) /\ Hid (Wr B w' g (if 65535 < tx.length + m then tx else tx ++ zs) pl /\ Fr B w w' /\ ∀ j, j < w.heap.size -> j ≠ g -> v.ownBlock ≠ some j -> w'.heap[j]? = w.heap[j]?) /\ Hid (Fx g w w') := by
 have hg := box_lt h.box
 have c0 : w.cell? ⟨g, 0, none⟩ = some (.pointer (some ⟨g, 0, none⟩)) := box_cell h.box 0 _ rfl
 have c1 : w.cell? ⟨g, 1, none⟩ = some v := box_cell h.box 1 _ rfl
 have f1 := box_frozen h.box 1
 have H : Hid (Wr1 B w g tx pl v ys mb) := h
 have HR : Hid (Rd w a zs) := hr
 have HL : Hid (zs.length = m) := hl
 obtain ⟨ao, hv, _⟩ := h.own.addr
 obtain ⟨n, hn⟩ : ∃ n, tx.length = n := ⟨_, rfl⟩
 have HN : Hid (tx.length = n) := hn
 rw [hn] at hv ht ⊢
 have KM := Lib.hid (made_yes g w c0 hg)
 have HO : Hid (Own B w v n ys) := by have := h.own; rw [hn] at this; exact this
 subst hv
 clear h hr hl hn
 by_cases hbig : 65535 < n + m
 · rw [if_pos hbig, if_pos hbig]
   have hbig' : 65535 - (n : Int) < (m : Int) := by omega
   go_enter Tryz.func111, Tryz.ntmps111
   go_wp2_with fail
   refine KM.out.mono ?_
   rintro e w1 ⟨rfl, rfl⟩
   go_wp2_with fail
   go_ret
   exact ⟨rfl, ⟨⟨_, _, _, H.out⟩, Fr.refl _ _, fun _ _ _ _ => rfl⟩, Fx.refl _ _⟩
 · rw [if_neg hbig, if_neg hbig]
   have hbig' : (m : Int) <= 65535 - (n : Int) := by omega
   go_enter Tryz.func111, Tryz.ntmps111
   go_wp2_with fail
   refine KM.out.mono ?_
   rintro e w1 ⟨rfl, rfl⟩
   go_wp2_with (at_builtin; refine wpList_append_blk2 _ rfl _ _ rfl B _ n ys rfl HO.out a m c zs rfl HR.out HL.out hc (by omega) hB ?_; intro v' w2 ys' hO' hT' hG' hL'; have HST := Lib.hid (H.out.stored hG' (tx' := tx ++ zs) (v' := v') (ys' := ys') (by rw [List.length_append, HN.out, HL.out]; exact hO'.out) (by rw [List.length_append, HN.out, HL.out, hT'.out]; have := H.out.txt; rw [HN.out] at this; rw [this]) hB); have hob := H.out.old hG'; have hg2 := box_lt hob.1; have d1 : w2.cell? ⟨g, 1, none⟩ = some (.slice ao n ys.length) := box_cell hob.1 1 _ rfl; have e1 := box_frozen hob.1 1; obtain ⟨ao', rfl, _⟩ := hO'.out.addr; have HJ : Hid (∀ j, j < w1.heap.size -> j ≠ g -> (Value.slice ao n ys.length).ownBlock ≠ some j -> (w2.setCell ⟨g, 1, none⟩ (.slice ao' (n + m) ys'.length)).heap[j]? = w1.heap[j]?) := (fun j hj hne hnb => ((grown_set w2 g 1 (.slice ao' (n + m) ys'.length)).block j (Nat.lt_of_lt_of_le hj hG'.size) (by simpa using hne)).trans (hG'.block j hj (fun e => hnb e.symm))); have HFX : Hid (Fx g w1 (w2.setCell ⟨g, 1, none⟩ (.slice ao' (n + m) ys'.length))) := (by have q1 := H.out.box; have q2 := HST.out.1.box; have q3 := Nat.le_trans hG'.size (grown_set w2 g 1 (.slice ao' (n + m) ys'.length)).size; have q4 := HJ.out; have q5 := Fx.stored q1 q2 q3 q4 hL'; exact q5); clear hG' hob hL')
   go_ret
   exact ⟨rfl, ⟨⟨_, _, _, HST.out.1⟩, HST.out.2, HJ.out⟩, HFX⟩
end Go.Proofs.YteplffhfeoephaaGreat
namespace Go.Proofs.YteplffhfeoephaaGreat
open Go.ChangeShapes Go.WideShapes Go.ChangeAt Go.RowKit Go.Maps
set_option maxHeartbeats 800000 in
theorem sclone_any (x : Addr) (len cap : Nat) (zs : List Int) (w : World) (hr : Rd w (some x) zs) (hl : zs.length = len) (hm : len <= 140737488355328) :
   Calls Tryz.prog 172 #[.slice (some x) len cap] w fun e w' => ∃ v ys, e = .returned v /\ Hid (Own w.heap.size w' v len ys /\ ys.take len = zs /\ Below w.heap.size w w') := by
 have HR : Hid (Rd w (some x) zs) := hr
 have HL : Hid (zs.length = len) := hl
 clear hr hl
 have hb1 : Below w.heap.size w (w.alloc (.cells #[] 5)) := (Below.refl _ _).alloc (Nat.le_refl _) _
 have hnil : ∀ W : World, (binOp .eql 29 (.slice (some x) len cap) (.slice none 0 0)).run Tryz.prog W = .ok (.bool false) W := fun W => Lib.run_eql_slice_nil W _ _ _ _ _ _ _ Tryz.underlying29
 go_enter Tryz.func172, Tryz.ntmps172
 go_wp2_with (at_builtin; refine wpList_append_blk _ rfl _ _ rfl w.heap.size _ 0 [] rfl (empty_own w) (some x) len cap zs rfl (HR.out.below hb1) HL.out (by simp) (by omega) (by simp) ?_; intro v' w' zs' hO hT hG)
 go_ret
 refine ⟨v', zs', rfl, ?_, ?_, ?_⟩
 · have h := hO.out
   rw [Nat.zero_add] at h
   exact h
 · have h := hT.out
   rw [Nat.zero_add] at h
   simpa using h
 · refine hb1.grown hG (by simp) ?_
   intro k hk
   have e : w.heap.size = k := Option.some.inj hk
   omega
theorem Owx1.nm {B : Nat} {w : World} {s : Sl} {ss : List ByteArray} (h : Owx1 B w s ss) (hk : nck ss = 0) : Nm w s.a s.n ss := ⟨h.rd.rd, h.rd.len, by have := (nck_small hk).1; omega⟩
theorem wrap_in {x : Int} (h0 : 0 <= x) (h1 : x <= 9223372036854775807) : IntKind.i64.wrap x = x := by
 have e : x % 2 ^ 64 = x := Int.emod_eq_of_lt h0 (by omega)
 simp only [IntKind.wrap, IntKind.bits, IntKind.signed, e]
 rw [if_neg]
 simp
 omega
theorem sqt_cnt {t : Nat} (h : sqt t = true) : 1 <= cnt t /\ cnt t <= 2 /\ ahd t <= 2 := by
 unfold sqt at h
 have := of_decide_eq_true h
 rcases this with rfl | rfl | rfl | rfl | rfl <;> decide
theorem gm_pos {zs : List Int} {k p : Nat} {x : List (List ByteArray) × Nat} (hk : 1 <= k) (h : gmany (gnm zs) k p = some x) : p < zs.length := by
 cases k with
 | zero => omega
 | succ k =>
   simp only [gmany, Option.bind_eq_some_iff] at h
   obtain ⟨y, hy, _⟩ := h
   have := gnm_ok hy
   omega
def PlS (B : Nat) (w : World) (v : Value) (m : Nat) (L : List Int) : Prop := ∃ ys, Own B w v m ys /\ ys.take m = L /\ L.length = m
theorem PlS.keep {B r m : Nat} {w w' : World} {v : Value} {L : List Int} (h : PlS B w v m L) (hg : w.grownBy w' (some r)) (hr : r < B) : PlS B w' v m L := by
 obtain ⟨ys, h1, h2, h3⟩ := h
 refine ⟨ys, h1.keepAt (fun g e hl => hg.block g hl (fun e2 => ?_)), h2, h3⟩
 injection e2 with e2
 obtain ⟨hB, _⟩ := h1.blk5 g e
 omega
theorem PlS.below {B m : Nat} {w w' : World} {v : Value} {L : List Int} (h : PlS B w v m L) (hb : Below w.heap.size w w') : PlS B w' v m L := by
 obtain ⟨ys, h1, h2, h3⟩ := h
 exact ⟨ys, h1.below hb, h2, h3⟩
theorem Rdr.app {w w' : World} {r b o n c q B : Nat} {zs : List Int} {ow : Option Nat} (h : Rdr w r (some ⟨b, o, none⟩) n c zs q) (hg : w.grownBy w' ow) (hb : b < B) (hr : r < B) (hrw : r < w.heap.size) (hbw : b < w.heap.size) (ho : ∀ j, ow = some j -> B <= j) : Rdr w' r (some ⟨b, o, none⟩) n c zs q := by
 refine ⟨(hg.block r hrw (fun e => ?_)).trans h.box, h.rd.of_blocks hg.size (fun b' o' e => ?_), h.len, h.cap, h.big, h.off, h.nil, h.pn⟩
 · have := ho r e.symm; omega
 · cases e
   exact hg.block b hbw (fun e => by have := ho b e.symm; omega)
theorem grown_apx {w w4 w5 : World} {r : Nat} {ow : Option Nat} (h : w.grownBy w4 (some r)) (hg : w4.grownBy w5 ow) (ho : ∀ j, ow = some j -> w.heap.size <= j) : w.grownBy w5 (some r) :=
 ⟨hg.os.trans h.os, hg.tape.trans h.tape, hg.output.trans h.output, Nat.le_trans h.size hg.size, fun j hj hne => (hg.block j (Nat.lt_of_lt_of_le hj h.size) (fun e => by have := ho j e.symm; omega)).trans (h.block j hj hne)⟩
set_option maxHeartbeats 4000000 in
theorem runsq_yes (r : Nat) (b o n c : Nat) (zs : List Int) (p t e : Nat) (L : List Int) (w : World) (h : Rdr w r (some ⟨b, o, none⟩) n c zs p) (hs : sqt t = true) (he : e <= n) (hsz : e <= p + 65535) (hx : gpl t zs p e = some L) :
   Calls Tryz.prog 159 #[.pointer (some ⟨r, 0, none⟩), .int .u16 t, .int .i64 e] w fun e' w' => ∃ s : Sl, e' = .returned (.slice s.a s.n s.c) /\ Hid (BRd w' s L /\ (∃ q, Rdr w' r (some ⟨b, o, none⟩) n c zs q) /\ w.grownBy w' (some r)) := by
 unfold gpl at hx
 rw [if_pos hs] at hx
 split at hx
 case isFalse => cases hx
 case isTrue ha =>
   simp only [Option.bind_eq_some_iff] at hx
   obtain ⟨x, hgm, hx⟩ := hx
   split at hx
   case isFalse => cases hx
   case isTrue hxe =>
     injection hx with hx
     obtain ⟨hc1, hc2, hA2⟩ := sqt_cnt hs
     have hps := gm_pos hc1 hgm
     rw [h.len] at hps
     have hpx := (gmany_behind _ _ x (by have := h.len; omega) hgm).1
     have KN := fun W => Lib.hid (namesin_any t W)
     have KY := fun W => Lib.hid (need_yes W)
     generalize ahd t = A at *
     generalize hCn : cnt t = Cn at *
     have hn47 := h.big
     have hcap := h.cap
     have hbw0 : b < w.heap.size := by
       rcases h.rd.1 with h0 | ⟨b', o', e', hb', _⟩
       · have := h.len; rw [h0] at this; simp at this; omega
       · cases e'; exact hb'
     have HbW := Lib.hid hbw0
     have HR := Lib.hid h
     have c0 : w.cell? ⟨r, 0, none⟩ = some (.slice (some ⟨b, o, none⟩) n c) := box_cell h.box 0 _ rfl
     have c1 : w.cell? ⟨r, 1, none⟩ = some (.int .i64 p) := box_cell h.box 1 _ rfl
     have hlt := box_lt h.box
     have k1 : (A : Int) <= (e : Int) - (p : Int) := by omega
     have hws : IntKind.i64.wrap ((p : Int) + (A : Int)) = (p : Int) + (A : Int) := wrap_in (by omega) (by omega)
     have b1 : (0 : Int) <= (p : Int) := by omega
     have b2 : (p : Int) <= (p : Int) + (A : Int) := by omega
     have b3 : (p : Int) + (A : Int) <= (c : Int) := by omega
     have b4 : ((p : Int) + (A : Int)).toNat - p = A := by omega
     have hpc : ¬ c = p := by omega
     have hcl : Hid (∀ W, Rd W (some ⟨b, o, none⟩) zs -> Calls Tryz.prog 172 #[.slice (some ⟨b, o + p, none⟩) A (c - p)] W fun e w' => ∃ v ys, e = .returned v /\ Hid (Own W.heap.size w' v A ys /\ ys.take A = (zs.drop p).take A /\ Below W.heap.size W w')) := by
       intro W hW
       have hl := h.len
       exact sclone_any ⟨b, o + p, none⟩ A (c - p) ((zs.drop p).take A) W (hW.cut p A (by omega) (fun _ b' o' e' => by cases e'; rfl)) (by simp; omega) (by omega)
     have KS : ∀ W, Below w.heap.size w W -> (W.cell? ⟨r, 0, none⟩ = some (.slice (some ⟨b, o, none⟩) n c) /\ W.cell? ⟨r, 1, none⟩ = some (.int .i64 p)) := fun W hW => ⟨box_cell (h.below hW).box 0 _ rfl, box_cell (h.below hW).box 1 _ rfl⟩
     clear h
     go_enter Tryz.func159, Tryz.ntmps159
     go_wp2_with fail
     refine (KN w).out.mono ?_
     rintro e1 w1 ⟨rfl, hw1⟩
     subst w1
     go_wp2_with fail
     refine (KY w).out.mono ?_
     rintro e1 w1 ⟨rfl, hw1⟩
     subst w1
     go_wp2_with fail
     go_region_held3 (fun W => W.cell? ⟨r, 0, none⟩ = some (.slice (some ⟨b, o, none⟩) n c) /\ W.cell? ⟨r, 1, none⟩ = some (.int .i64 p)) (first | exact KS _ HB1.out | exact KS _ (Below.refl w.heap.size w).drew | exact KS _ (Below.refl w.heap.size w)) (first
       | (go_at_call 172; refine Calls.mono (hcl.out _ (by first | exact HR.out.rd.drew | exact HR.out.rd)) ?_; rintro e1 w1 ⟨v1, y1, rfl, H1⟩; have HB1 : Hid (Below w.heap.size w w1) := (by first | exact Below.trans ((Below.refl w.heap.size w).drew) H1.out.2.2 | exact H1.out.2.2)))
     obtain ⟨B, hB⟩ : ∃ B, B = w.heap.size := ⟨_, rfl⟩
     have hrB : r < B := by omega
     have HB := Lib.hid hB
     have HR1 := Lib.hid (HR.out.below HB1.out)
     have HP1 : Hid (PlS B w1 v1 A ((zs.drop p).take A)) := by
       rw [hB]
       have hl := HR.out.len
       exact ⟨y1, H1.out.1, H1.out.2.1, by simp; omega⟩
     clear c0 c1 hlt KS H1 hcl KN hB
     have c1 : w1.cell? ⟨r, 1, none⟩ = some (.int .i64 p) := box_cell HR1.out.box 1 _ rfl
     have hlt := box_lt HR1.out.box
     have hfz := box_frozen HR1.out.box 1
     have HMV := Lib.hid (HR1.out.move (p + A) (by omega))
     have HP2 := Lib.hid (HP1.out.keep HMV.out.2 hrB)
     have HG2 := Lib.hid (grown_trans (grown_of HB1.out) HMV.out.2)
     have HBs : Hid (B <= w1.heap.size) := (by have := HB1.out.size; have := HB.out; omega : B <= w1.heap.size)
     clear HP1
     have hcast : ((p + A : Nat) : Int) = (p : Int) + (A : Int) := by omega
     rw [hcast] at HMV HP2 HG2
     have HX : Hid (gmany (gnm zs) Cn (p + A) = some x /\ (zs.drop p).take A ++ (x.1.flatMap nmB ++ (zs.drop x.2).take (e - x.2)) = L) := ⟨hgm, hx⟩
     clear hgm hx hcast
     go_wp2_with fail
     go_loopw [9, 51] (fun v z wr => ∃ k : Nat, k <= Cn /\ z = .int .i64 k /\ Hid (∃ (q m : Nat) (Lk : List Int) (y : List (List ByteArray) × Nat), PlS B wr v m Lk /\ Rdr wr r (some ⟨b, o, none⟩) n c zs q /\ w.grownBy wr (some r) /\ B <= wr.heap.size /\ gmany (gnm zs) (Cn - k) q = some y /\ y.2 = x.2 /\ Lk ++ y.1.flatMap nmB = (zs.drop p).take A ++ x.1.flatMap nmB /\ m <= 2 + 255 * k)) (fun _ z _ => Cn - (intOf z).toNat)
     case atStart =>
       refine ⟨0, Nat.zero_le _, rfl, p + A, A, _, x, HP2.out, HMV.out.1, HG2.out, ?_, HX.out.1, rfl, rfl, by omega⟩
       exact Nat.le_trans HBs.out HMV.out.2.size
     case round =>
       obtain ⟨k, hk, rfl, HK⟩ := hrel
       obtain ⟨q, m, Lk, y, g1, g2, g3, g4, g5, g6, g7, g8⟩ := HK.out
       obtain ⟨yk, hO, hT, hLm⟩ := g1
       obtain ⟨au, hu9, _⟩ := hO.addr
       subst hu9
       obtain ⟨YC, hYC⟩ : ∃ YC, yk.length = YC := ⟨_, rfl⟩
       rw [hYC] at hO HK ⊢
       have HYC := Lib.hid hYC
       clear hYC
       by_cases hlt2 : k < Cn
       · have hlt' : (k : Int) < (Cn : Int) := by omega
         have e1 : Cn - k = (Cn - (k + 1)) + 1 := by omega
         rw [e1] at g5
         simp only [gmany, Option.bind_eq_some_iff, Option.map_eq_some_iff] at g5
         obtain ⟨nm, hnm, y', hy', rfl⟩ := g5
         have hck := (gnm_ok hnm).1
         have K1 := Lib.hid (rnm_yes r (some ⟨b, o, none⟩) n c zs q nm wr g2 hnm)
         have HV : Hid (PlS B wr (.slice au m YC) m Lk /\ w.grownBy wr (some r) /\ B <= wr.heap.size /\ gmany (gnm zs) (Cn - (k + 1)) nm.2 = some y' /\ y'.2 = x.2 /\ Lk ++ (nmB nm.1 ++ y'.1.flatMap nmB) = (zs.drop p).take A ++ x.1.flatMap nmB /\ nck nm.1 = 0) := ⟨⟨yk, hO, hT, hLm⟩, g3, g4, hy', g6, by simpa using g7, hck⟩
         clear hO hT hLm HK g2 g3 g4 g6 g7 hnm hy' hck
         go_wp2_with fail
         refine K1.out.mono ?_
         rintro e3 w3 ⟨s3, rfl, H3⟩
         have KB := Lib.hid (pbytes_room s3.a s3.n s3.c nm.1 w3 (H3.out.2.1.nm HV.out.2.2.2.2.2.2))
         have hnb : nbytes nm.1 = (nmB nm.1, 0) := by unfold nbytes nmB; rw [if_pos HV.out.2.2.2.2.2.2]
         rw [hnb] at KB
         obtain ⟨N, hN⟩ : ∃ N, (nmB nm.1).length = N := ⟨_, rfl⟩
         simp only at KB
         rw [hN] at KB
         have hN255 : N <= 255 := by rw [<- hN, nmB_len]; exact (nck_small HV.out.2.2.2.2.2.2).1
         have HNN := Lib.hid hN
         clear hnb hN K1
         go_wp2_with fail
         refine KB.out.mono ?_
         rintro e4 w4 ⟨vb, yb, rfl, H4⟩
         obtain ⟨ab, rfl, hAb⟩ := H4.out.1.addr
         have HRb : Hid (Rd w4 ab (nmB nm.1) /\ (ab = none -> yb.length = 0)) := by
           have := hAb.rdTake N
           rw [H4.out.2.1] at this
           exact ⟨this, hAb.nil⟩
         have HP4 : Hid (PlS B w4 (.slice au m YC) m Lk) := (HV.out.1.keep H3.out.2.2 hrB).below H4.out.2.2.1
         obtain ⟨yk4, hO4, hT4, hL4⟩ := HP4.out
         have HO4 := Lib.hid hO4
         have HT4 : Hid (yk4.take m = Lk /\ Lk.length = m) := ⟨hT4, hL4⟩
         have HG4 : Hid (w.grownBy w4 (some r) /\ B <= w4.heap.size /\ Rdr w4 r (some ⟨b, o, none⟩) n c zs nm.2) := ⟨grown_trans (grown_trans HV.out.2.1 H3.out.2.2) (grown_of H4.out.2.2.1), Nat.le_trans HV.out.2.2.1 (Nat.le_trans H3.out.2.2.size H4.out.2.2.1.size), H3.out.1.below H4.out.2.2.1⟩
         clear hAb KB hO4 hT4 hL4 HP4
         go_wp2_with (at_builtin; refine wpList_append_blk2 _ rfl _ _ rfl B _ m yk4 rfl HO4.out ab N yb.length (nmB nm.1) rfl HRb.out.1 HNN.out HRb.out.2 (by omega) HG4.out.2.1 ?_; intro v5 w5 y5 hO5 hT5 hG5 hL5; have HW5 := Lib.hid hG5; have HL5 := Lib.hid hL5; clear hG5 hL5)
         refine ⟨⟨k + 1, by omega, by go_num, nm.2, m + N, Lk ++ nmB nm.1, y', ⟨y5, hO5.out, ?_, ?_⟩, ?_, ?_, ?_, HV.out.2.2.2.1, HV.out.2.2.2.2.1, ?_, by omega⟩, by simp [intOf]; omega⟩
         · rw [hT5.out, HT4.out.1]
         · rw [List.length_append, HT4.out.2, HNN.out]
         · exact HG4.out.2.2.app HW5.out (B := B) (by have := HbW.out; have := HB.out; omega) hrB (box_lt HG4.out.2.2.box) (by have := HbW.out; have := HB.out; have := HG4.out.2.1; omega) (fun j e => (HO4.out.blk5 j e).1)
         · exact grown_apx HG4.out.1 HW5.out (fun j e => by have := (HO4.out.blk5 j e).1; have := HB.out; omega)
         · exact Nat.le_trans HG4.out.2.1 HW5.out.size
         · rw [List.append_assoc]; exact HV.out.2.2.2.2.2.1
       · have hkk : k = Cn := by omega
         subst k
         have e0 : Cn - Cn = 0 := by omega
         rw [e0] at g5
         simp only [gmany, Option.some.injEq] at g5
         subst g5
         simp only [List.flatMap_nil, List.append_nil] at g7
         simp only at g6
         have hqn := g2.pn
         have HOr := Lib.hid hO
         have HTr : Hid (yk.take m = Lk /\ Lk.length = m /\ Lk = (zs.drop p).take A ++ x.1.flatMap nmB) := ⟨hT, hLm, g7⟩
         have HGr : Hid (Rdr wr r (some ⟨b, o, none⟩) n c zs q /\ w.grownBy wr (some r) /\ B <= wr.heap.size) := ⟨g2, g3, g4⟩
         have hLL : Hid (L = Lk ++ (zs.drop q).take (e - q) /\ m <= 600) := ⟨by rw [<- HX.out.2, g7, g6]; simp, by omega⟩
         have hqe : q <= e := by omega
         have hpq : p <= q := by omega
         have c0 : wr.cell? ⟨r, 0, none⟩ = some (.slice (some ⟨b, o, none⟩) n c) := box_cell g2.box 0 _ rfl
         have c1 : wr.cell? ⟨r, 1, none⟩ = some (.int .i64 q) := box_cell g2.box 1 _ rfl
         have hlt := box_lt g2.box
         have hqe' : (q : Int) <= (e : Int) := by omega
         have d1 : (0 : Int) <= (q : Int) := by omega
         have d3 : (e : Int) <= (c : Int) := by omega
         clear HK g2 g3 g4 g6 g7 hO hT hLm HX HMV HP2 HG2 HR1 k1 hws b1 b2 b3 b4 hpc
         go_wp2_with fail
         refine (KY wr).out.mono ?_
         rintro e1 w6 ⟨rfl, hw6⟩
         subst w6
         have KS : ∀ W, Below wr.heap.size wr W -> (W.cell? ⟨r, 0, none⟩ = some (.slice (some ⟨b, o, none⟩) n c) /\ W.cell? ⟨r, 1, none⟩ = some (.int .i64 q)) := fun W hW => ⟨box_cell (HGr.out.1.below hW).box 0 _ rfl, box_cell (HGr.out.1.below hW).box 1 _ rfl⟩
         have HEND : Hid (∀ v' w' zs', Own B w' v' (m + (e - q)) zs' -> zs'.take (m + (e - q)) = yk.take m ++ (zs.drop q).take (e - q) -> ∀ W, Below wr.heap.size wr W -> W.grownBy w' (Value.slice au m YC).ownBlock -> ∃ s : Sl, v' = .slice s.a s.n s.c /\ Hid (BRd w' s L /\ Rdr w' r (some ⟨b, o, none⟩) n c zs q /\ w.grownBy w' (some r))) := by
           intro v' w' zs' h1 h2 W hW h3
           obtain ⟨a', hv', hA'⟩ := h1.addr
           have hrd := hA'.rdTake (m + (e - q))
           rw [h2, HTr.out.1, <- hLL.out.1] at hrd
           have hle := hA'.le
           have hLlen : L.length = m + (e - q) := by rw [hLL.out.1, List.length_append, HTr.out.2.1, List.length_take, List.length_drop]; have := HGr.out.1.len; omega
           have hB1 := HB.out
           have hbb := HbW.out
           have hsz := hW.size
           refine ⟨⟨a', m + (e - q), zs'.length⟩, hv', ⟨hrd, hLlen, ⟨hle.1, by have := hle.2; simp only [maxLen] at this; exact this⟩, hA'.nil⟩, (HGr.out.1.below hW).app h3 (B := B) (by omega) hrB (Nat.lt_of_lt_of_le (box_lt HGr.out.1.box) hsz) (by have := HGr.out.2.2; omega) (fun j e => (HOr.out.blk5 j e).1), ?_⟩
           exact grown_apx (grown_trans HGr.out.2.1 (grown_of hW)) h3 (fun j e => by have := (HOr.out.blk5 j e).1; omega)
         by_cases hcq : c = q
         · have hz0 : (zs.drop q).take (e - q) = [] := by
             have h0 : e - q = 0 := by omega
             rw [h0]; simp
           have HC : Hid (∀ W, Below wr.heap.size wr W -> Rd W (some ⟨b, o, none⟩) ((zs.drop q).take (e - q))) := fun W _ => by rw [hz0]; exact ⟨.inl rfl, by simp⟩
           clear hz0
           have HLn : Hid (((zs.drop q).take (e - q)).length = e - q) := (show _ = _ by simp; have := HGr.out.1.len; omega)
           subst hcq
           go_wp2_with fail
           go_region_held3 (fun W => W.cell? ⟨r, 0, none⟩ = some (.slice (some ⟨b, o, none⟩) n c) /\ W.cell? ⟨r, 1, none⟩ = some (.int .i64 c)) (first | exact ⟨s7a, s7b⟩ | exact KS _ (Below.refl wr.heap.size wr).drew | exact KS _ (Below.refl wr.heap.size wr) | go_keep) (first
             | (refine step_append_blk rfl _ _ rfl B _ m yk rfl ?_ _ _ _ ((zs.drop c).take (e - c)) rfl ?_ (m + (e - c)) ?_ ?_ ?_ ?_ ?_ ?_; (first | exact HOr.out.below (Below.refl wr.heap.size wr).drew | exact HOr.out); exact HC.out _ (by first | exact (Below.refl wr.heap.size wr).drew | exact Below.refl wr.heap.size wr); exact HLn.out; rfl; (intro e9; first | rfl | cases e9); (have := hLL.out.2; omega); (first | exact HGr.out.2.2 | (simp; exact HGr.out.2.2)); intro v7 w7 y7 hO7 hT7 hG7; obtain ⟨s7, hv7, HZ7⟩ := HEND.out v7 w7 y7 hO7.out hT7.out _ (by first | exact (Below.refl wr.heap.size wr).drew | exact Below.refl wr.heap.size wr) hG7.out; have s7a : w7.cell? ⟨r, 0, none⟩ = some (.slice (some ⟨b, o, none⟩) n c) := box_cell HZ7.out.2.1.box 0 _ rfl; have s7b : w7.cell? ⟨r, 1, none⟩ = some (.int .i64 c) := box_cell HZ7.out.2.1.box 1 _ rfl; subst hv7))
           go_wp2
           go_ret
           exact ⟨s7, rfl, HZ7.out.1, ⟨_, HZ7.out.2.1⟩, HZ7.out.2.2⟩
         · have HC : Hid (∀ W, Below wr.heap.size wr W -> Rd W (some ⟨b, o + q, none⟩) ((zs.drop q).take (e - q))) := fun W hW => (HGr.out.1.below hW).rd.cut q (e - q) (by have := HGr.out.1.len; omega) (fun _ b' o' e' => by cases e'; rfl)
           have HLn : Hid (((zs.drop q).take (e - q)).length = e - q) := (show _ = _ by simp; have := HGr.out.1.len; omega)
           go_wp2_with fail
           go_region_held3 (fun W => W.cell? ⟨r, 0, none⟩ = some (.slice (some ⟨b, o, none⟩) n c) /\ W.cell? ⟨r, 1, none⟩ = some (.int .i64 q)) (first | exact ⟨s7a, s7b⟩ | exact KS _ (Below.refl wr.heap.size wr).drew | exact KS _ (Below.refl wr.heap.size wr) | go_keep) (first
             | (refine step_append_blk rfl _ _ rfl B _ m yk rfl ?_ _ _ _ ((zs.drop q).take (e - q)) rfl ?_ (m + (e - q)) ?_ ?_ ?_ ?_ ?_ ?_; (first | exact HOr.out.below (Below.refl wr.heap.size wr).drew | exact HOr.out); exact HC.out _ (by first | exact (Below.refl wr.heap.size wr).drew | exact Below.refl wr.heap.size wr); exact HLn.out; rfl; (intro e9; first | rfl | cases e9); (have := hLL.out.2; omega); (first | exact HGr.out.2.2 | (simp; exact HGr.out.2.2)); intro v7 w7 y7 hO7 hT7 hG7; obtain ⟨s7, hv7, HZ7⟩ := HEND.out v7 w7 y7 hO7.out hT7.out _ (by first | exact (Below.refl wr.heap.size wr).drew | exact Below.refl wr.heap.size wr) hG7.out; have s7a : w7.cell? ⟨r, 0, none⟩ = some (.slice (some ⟨b, o, none⟩) n c) := box_cell HZ7.out.2.1.box 0 _ rfl; have s7b : w7.cell? ⟨r, 1, none⟩ = some (.int .i64 q) := box_cell HZ7.out.2.1.box 1 _ rfl; subst hv7))
           go_wp2
           go_ret
           exact ⟨s7, rfl, HZ7.out.1, ⟨_, HZ7.out.2.1⟩, HZ7.out.2.2⟩
end Go.Proofs.YteplffhfeoephaaGreat
namespace Go.Proofs.YteplffhfeoephaaGreat
open Go.ChangeShapes Go.WideShapes Go.ChangeAt Go.RowKit Go.Maps
set_option maxHeartbeats 4000000 in
theorem runsq_no1 (r : Nat) (b o n c : Nat) (zs : List Int) (p t e : Nat) (w : World) (h : Rdr w r (some ⟨b, o, none⟩) n c zs p) (hbw0 : b < w.heap.size) (hs : sqt t = true) (he : e <= n) (hpe : p <= e) (ha : p + ahd t <= e) (hx : gpl t zs p e = none) (hcp : ¬ c = p) :
   Calls Tryz.prog 159 #[.pointer (some ⟨r, 0, none⟩), .int .u16 t, .int .i64 e] w fun e' w' => e' = .panicked thrown /\ Hid (w.grownBy w' (some r)) := by
 obtain ⟨hc1, hc2, hA2⟩ := sqt_cnt hs
 have KN := fun W => Lib.hid (namesin_any t W)
 have KY := fun W => Lib.hid (need_yes W)
 have KNo := fun W => Lib.hid (need_no W)
 obtain ⟨GG, hGG⟩ : ∃ GG, (gmany (gnm zs) (cnt t) (p + ahd t)).map (·.2) = GG := ⟨_, rfl⟩
 have HGG : Hid (∀ x2, GG = some x2 -> e < x2) := by
   intro x2 hx2
   unfold gpl at hx
   rw [if_pos hs, if_pos ha] at hx
   rw [hx2] at hGG
   simp only [Option.map_eq_some_iff] at hGG
   obtain ⟨y, hy, rfl⟩ := hGG
   rw [hy] at hx
   simp only [Option.bind_some] at hx
   split at hx
   · cases hx
   · omega
 clear hx
 generalize ahd t = A at *
 generalize hCn : cnt t = Cn at *
 have hn47 := h.big
 have hcap := h.cap
 have hpn := h.pn
 have HR := Lib.hid h
 have HbW := Lib.hid hbw0
 have c0 : w.cell? ⟨r, 0, none⟩ = some (.slice (some ⟨b, o, none⟩) n c) := box_cell h.box 0 _ rfl
 have c1 : w.cell? ⟨r, 1, none⟩ = some (.int .i64 p) := box_cell h.box 1 _ rfl
 have hlt := box_lt h.box
 have k1 : (A : Int) <= (e : Int) - (p : Int) := by omega
 have hws : IntKind.i64.wrap ((p : Int) + (A : Int)) = (p : Int) + (A : Int) := wrap_in (by omega) (by omega)
 have b1 : (0 : Int) <= (p : Int) := by omega
 have b2 : (p : Int) <= (p : Int) + (A : Int) := by omega
 have b3 : (p : Int) + (A : Int) <= (c : Int) := by omega
 have b4 : ((p : Int) + (A : Int)).toNat - p = A := by omega
 have hcl : Hid (∀ W, Rd W (some ⟨b, o, none⟩) zs -> Calls Tryz.prog 172 #[.slice (some ⟨b, o + p, none⟩) A (c - p)] W fun e w' => ∃ v ys, e = .returned v /\ Hid (Own W.heap.size w' v A ys /\ Below W.heap.size W w')) := by
   intro W hW
   have hl := h.len
   refine (sclone_any ⟨b, o + p, none⟩ A (c - p) ((zs.drop p).take A) W (hW.cut p A (by omega) (fun _ b' o' e' => by cases e'; rfl)) (by simp; omega) (by omega)).mono ?_
   rintro e w' ⟨v, ys, h1, h2⟩
   exact ⟨v, ys, h1, h2.out.1, h2.out.2.2⟩
 have KS : ∀ W, Below w.heap.size w W -> (W.cell? ⟨r, 0, none⟩ = some (.slice (some ⟨b, o, none⟩) n c) /\ W.cell? ⟨r, 1, none⟩ = some (.int .i64 p)) := fun W hW => ⟨box_cell (h.below hW).box 0 _ rfl, box_cell (h.below hW).box 1 _ rfl⟩
 clear h hbw0
 go_enter Tryz.func159, Tryz.ntmps159
 go_wp2_with fail
 refine (KN w).out.mono ?_
 rintro e1 w1 ⟨rfl, hw1⟩
 subst w1
 go_wp2_with fail
 refine (KY w).out.mono ?_
 rintro e1 w1 ⟨rfl, hw1⟩
 subst w1
 go_wp2_with fail
 go_region_held3 (fun W => W.cell? ⟨r, 0, none⟩ = some (.slice (some ⟨b, o, none⟩) n c) /\ W.cell? ⟨r, 1, none⟩ = some (.int .i64 p)) (first | exact KS _ HB1.out | exact KS _ (Below.refl w.heap.size w).drew | exact KS _ (Below.refl w.heap.size w)) (first
   | (go_at_call 172; refine Calls.mono (hcl.out _ (by first | exact HR.out.rd.drew | exact HR.out.rd)) ?_; rintro e1 w1 ⟨v1, y1, rfl, H1⟩; have HB1 : Hid (Below w.heap.size w w1) := (by first | exact Below.trans ((Below.refl w.heap.size w).drew) H1.out.2 | exact H1.out.2)))
 obtain ⟨B, hB⟩ : ∃ B, B = w.heap.size := ⟨_, rfl⟩
 have hrB : r < B := by omega
 have HB := Lib.hid hB
 have HR1 := Lib.hid (HR.out.below HB1.out)
 have HP1 : Hid (∃ ys, Own B w1 v1 A ys) := by
   rw [hB]
   exact ⟨y1, H1.out.1⟩
 clear c0 c1 hlt KS H1 hcl KN hB
 have c1 : w1.cell? ⟨r, 1, none⟩ = some (.int .i64 p) := box_cell HR1.out.box 1 _ rfl
 have hlt := box_lt HR1.out.box
 have hfz := box_frozen HR1.out.box 1
 have HMV := Lib.hid (HR1.out.move (p + A) (by omega))
 have HP2 : Hid (∃ ys, Own B (w1.setCell ⟨r, 1, none⟩ (.int .i64 ((p + A : Nat) : Int))) v1 A ys) := by
   obtain ⟨ys, h1⟩ := HP1.out
   refine ⟨ys, h1.keepAt (fun g e hl => HMV.out.2.block g hl (fun e2 => ?_))⟩
   injection e2 with e2
   have := (h1.blk5 g e).1
   omega
 have HG2 := Lib.hid (grown_trans (grown_of HB1.out) HMV.out.2)
 have HBs : Hid (B <= w1.heap.size) := (by have := HB1.out.size; have := HB.out; omega : B <= w1.heap.size)
 clear HP1
 have hcast : ((p + A : Nat) : Int) = (p : Int) + (A : Int) := by omega
 rw [hcast] at HMV HP2 HG2
 have HX := Lib.hid hGG
 clear hGG hcast
 go_wp2_with fail
 go_loopw [9, 51] (fun v z wr => ∃ k : Nat, k <= Cn /\ z = .int .i64 k /\ Hid (∃ (q m : Nat), (∃ ys, Own B wr v m ys) /\ Rdr wr r (some ⟨b, o, none⟩) n c zs q /\ w.grownBy wr (some r) /\ B <= wr.heap.size /\ (gmany (gnm zs) (Cn - k) q).map (·.2) = GG /\ m <= 2 + 255 * k)) (fun _ z _ => Cn - (intOf z).toNat)
 case atStart =>
   refine ⟨0, Nat.zero_le _, rfl, p + A, A, HP2.out, HMV.out.1, HG2.out, ?_, HX.out, by omega⟩
   exact Nat.le_trans HBs.out HMV.out.2.size
 case round =>
   obtain ⟨k, hk, rfl, HK⟩ := hrel
   obtain ⟨q, m, g1, g2, g3, g4, g5, g8⟩ := HK.out
   obtain ⟨yk, hO⟩ := g1
   obtain ⟨au, hu9, _⟩ := hO.addr
   subst hu9
   obtain ⟨YC, hYC⟩ : ∃ YC, yk.length = YC := ⟨_, rfl⟩
   rw [hYC] at hO HK ⊢
   clear hYC
   by_cases hlt2 : k < Cn
   · have hlt' : (k : Int) < (Cn : Int) := by omega
     have e1 : Cn - k = (Cn - (k + 1)) + 1 := by omega
     rw [e1] at g5
     simp only [gmany] at g5
     cases hnm : gnm zs q with
     | none =>
       have K1 := Lib.hid (rnm_no r (some ⟨b, o, none⟩) n c zs q wr g2 hnm)
       have HG := Lib.hid g3
       clear HK g2 g3 g4 g5 hO HMV HP2 HG2 HX HR1
       go_wp2_with fail
       refine K1.out.mono ?_
       rintro e3 w3 ⟨rfl, H3⟩
       go_wp2
       exact ⟨rfl, rfl, grown_trans HG.out H3.out⟩
     | some nm =>
       rw [hnm] at g5
       simp only [Option.bind_some, Option.map_map, Function.comp_def] at g5
       have hck := (gnm_ok hnm).1
       have K1 := Lib.hid (rnm_yes r (some ⟨b, o, none⟩) n c zs q nm wr g2 hnm)
       have HV : Hid ((∃ ys, Own B wr (.slice au m YC) m ys) /\ w.grownBy wr (some r) /\ B <= wr.heap.size /\ (gmany (gnm zs) (Cn - (k + 1)) nm.2).map (fun x => x.2) = GG /\ nck nm.1 = 0) := ⟨⟨yk, hO⟩, g3, g4, g5, hck⟩
       clear hO HK g2 g3 g4 g5 hnm hck
       go_wp2_with fail
       refine K1.out.mono ?_
       rintro e3 w3 ⟨s3, rfl, H3⟩
       have KB := Lib.hid (pbytes_room s3.a s3.n s3.c nm.1 w3 (H3.out.2.1.nm HV.out.2.2.2.2))
       have hnb : nbytes nm.1 = (nmB nm.1, 0) := by unfold nbytes nmB; rw [if_pos HV.out.2.2.2.2]
       rw [hnb] at KB
       obtain ⟨N, hN⟩ : ∃ N, (nmB nm.1).length = N := ⟨_, rfl⟩
       simp only at KB
       rw [hN] at KB
       have hN255 : N <= 255 := by rw [<- hN, nmB_len]; exact (nck_small HV.out.2.2.2.2).1
       have HNN := Lib.hid hN
       clear hnb hN K1
       go_wp2_with fail
       refine KB.out.mono ?_
       rintro e4 w4 ⟨vb, yb, rfl, H4⟩
       obtain ⟨ab, rfl, hAb⟩ := H4.out.1.addr
       have HRb : Hid (Rd w4 ab (nmB nm.1) /\ (ab = none -> yb.length = 0)) := by
         have := hAb.rdTake N
         rw [H4.out.2.1] at this
         exact ⟨this, hAb.nil⟩
       have HP4 : Hid (∃ ys, Own B w4 (.slice au m YC) m ys) := by
         obtain ⟨ys, h1⟩ := HV.out.1
         refine ⟨ys, (h1.keepAt (fun g e hl => H3.out.2.2.block g hl (fun e2 => ?_))).below H4.out.2.2.1⟩
         injection e2 with e2
         have := (h1.blk5 g e).1
         omega
       obtain ⟨yk4, hO4⟩ := HP4.out
       have HO4 := Lib.hid hO4
       have HG4 : Hid (w.grownBy w4 (some r) /\ B <= w4.heap.size /\ Rdr w4 r (some ⟨b, o, none⟩) n c zs nm.2) := ⟨grown_trans (grown_trans HV.out.2.1 H3.out.2.2) (grown_of H4.out.2.2.1), Nat.le_trans HV.out.2.2.1 (Nat.le_trans H3.out.2.2.size H4.out.2.2.1.size), H3.out.1.below H4.out.2.2.1⟩
       clear hAb KB hO4 HP4
       go_wp2_with (at_builtin; refine wpList_append_blk2 _ rfl _ _ rfl B _ m yk4 rfl HO4.out ab N yb.length (nmB nm.1) rfl HRb.out.1 HNN.out HRb.out.2 (by omega) HG4.out.2.1 ?_; intro v5 w5 y5 hO5 hT5 hG5 hL5; have HW5 := Lib.hid hG5; clear hG5 hL5)
       refine ⟨⟨k + 1, by omega, by go_num, nm.2, m + N, ⟨y5, hO5.out⟩, ?_, ?_, ?_, HV.out.2.2.2.1, by omega⟩, by simp [intOf]; omega⟩
       · exact HG4.out.2.2.app HW5.out (B := B) (by have := HbW.out; have := HB.out; omega) hrB (box_lt HG4.out.2.2.box) (by have := HbW.out; have := HB.out; have := HG4.out.2.1; omega) (fun j e => (HO4.out.blk5 j e).1)
       · exact grown_apx HG4.out.1 HW5.out (fun j e => by have := (HO4.out.blk5 j e).1; have := HB.out; omega)
       · exact Nat.le_trans HG4.out.2.1 HW5.out.size
   · have hkk : k = Cn := by omega
     subst k
     have e0 : Cn - Cn = 0 := by omega
     rw [e0] at g5
     simp only [gmany, Option.map_some] at g5
     have hqe := HGG.out q g5.symm
     have hqe' : (e : Int) < (q : Int) := by omega
     have hqp := g2.pn
     have HGr := Lib.hid g3
     have c1 : wr.cell? ⟨r, 1, none⟩ = some (.int .i64 q) := box_cell g2.box 1 _ rfl
     have hlt := box_lt g2.box
     clear HK g2 g3 g4 g5 hO HMV HP2 HG2 HX HR1 k1 hws b1 b2 b3 b4
     go_wp2_with fail
     rw [show decide (q <= e) = false from (by simp; omega)]
     refine (KNo wr).out.mono ?_
     rintro e1 w6 ⟨rfl, hw6⟩
     subst w6
     go_wp2
     exact ⟨rfl, rfl, HGr.out⟩
set_option maxHeartbeats 4000000 in
theorem runsq_no2 (r : Nat) (b o n c : Nat) (zs : List Int) (p t e : Nat) (w : World) (h : Rdr w r (some ⟨b, o, none⟩) n c zs p) (hbw0 : b < w.heap.size) (hs : sqt t = true) (he : e <= n) (hpe : p <= e) (ha : p + ahd t <= e) (hx : gpl t zs p e = none) (hcp : c = p) :
   Calls Tryz.prog 159 #[.pointer (some ⟨r, 0, none⟩), .int .u16 t, .int .i64 e] w fun e' w' => e' = .panicked thrown /\ Hid (w.grownBy w' (some r)) := by
 obtain ⟨hc1, hc2, hA2⟩ := sqt_cnt hs
 have KN := fun W => Lib.hid (namesin_any t W)
 have KY := fun W => Lib.hid (need_yes W)
 have KNo := fun W => Lib.hid (need_no W)
 obtain ⟨GG, hGG⟩ : ∃ GG, (gmany (gnm zs) (cnt t) (p + ahd t)).map (·.2) = GG := ⟨_, rfl⟩
 have HGG : Hid (∀ x2, GG = some x2 -> e < x2) := by
   intro x2 hx2
   unfold gpl at hx
   rw [if_pos hs, if_pos ha] at hx
   rw [hx2] at hGG
   simp only [Option.map_eq_some_iff] at hGG
   obtain ⟨y, hy, rfl⟩ := hGG
   rw [hy] at hx
   simp only [Option.bind_some] at hx
   split at hx
   · cases hx
   · omega
 clear hx
 generalize ahd t = A at *
 generalize hCn : cnt t = Cn at *
 have hn47 := h.big
 have hcap := h.cap
 have hpn := h.pn
 have HR := Lib.hid h
 have HbW := Lib.hid hbw0
 have c0 : w.cell? ⟨r, 0, none⟩ = some (.slice (some ⟨b, o, none⟩) n c) := box_cell h.box 0 _ rfl
 have c1 : w.cell? ⟨r, 1, none⟩ = some (.int .i64 p) := box_cell h.box 1 _ rfl
 have hlt := box_lt h.box
 have k1 : (A : Int) <= (e : Int) - (p : Int) := by omega
 have hws : IntKind.i64.wrap ((p : Int) + (A : Int)) = (p : Int) + (A : Int) := wrap_in (by omega) (by omega)
 have b1 : (0 : Int) <= (p : Int) := by omega
 have b2 : (p : Int) <= (p : Int) + (A : Int) := by omega
 have b3 : (p : Int) + (A : Int) <= (c : Int) := by omega
 have b4 : ((p : Int) + (A : Int)).toNat - p = A := by omega
 have hA0 : A = 0 := by omega
 have hcl : Hid (∀ W, Rd W (some ⟨b, o, none⟩) zs -> Calls Tryz.prog 172 #[.slice (some ⟨b, o, none⟩) A 0] W fun e w' => ∃ v ys, e = .returned v /\ Hid (Own W.heap.size w' v A ys /\ Below W.heap.size W w')) := by
   intro W hW
   refine (sclone_any ⟨b, o, none⟩ A 0 [] W ⟨.inl rfl, by simp⟩ (by simp; omega) (by omega)).mono ?_
   rintro e w' ⟨v, ys, h1, h2⟩
   exact ⟨v, ys, h1, h2.out.1, h2.out.2.2⟩
 clear hA0
 have KS : ∀ W, Below w.heap.size w W -> (W.cell? ⟨r, 0, none⟩ = some (.slice (some ⟨b, o, none⟩) n c) /\ W.cell? ⟨r, 1, none⟩ = some (.int .i64 p)) := fun W hW => ⟨box_cell (h.below hW).box 0 _ rfl, box_cell (h.below hW).box 1 _ rfl⟩
 clear h hbw0
 obtain rfl : c = p := hcp
 go_enter Tryz.func159, Tryz.ntmps159
 go_wp2_with fail
 refine (KN w).out.mono ?_
 rintro e1 w1 ⟨rfl, hw1⟩
 subst w1
 go_wp2_with fail
 refine (KY w).out.mono ?_
 rintro e1 w1 ⟨rfl, hw1⟩
 subst w1
 go_wp2_with fail
 go_region_held3 (fun W => W.cell? ⟨r, 0, none⟩ = some (.slice (some ⟨b, o, none⟩) n c) /\ W.cell? ⟨r, 1, none⟩ = some (.int .i64 c)) (first | exact KS _ HB1.out | exact KS _ (Below.refl w.heap.size w).drew | exact KS _ (Below.refl w.heap.size w)) (first
   | (go_at_call 172; refine Calls.mono (hcl.out _ (by first | exact HR.out.rd.drew | exact HR.out.rd)) ?_; rintro e1 w1 ⟨v1, y1, rfl, H1⟩; have HB1 : Hid (Below w.heap.size w w1) := (by first | exact Below.trans ((Below.refl w.heap.size w).drew) H1.out.2 | exact H1.out.2)))
 obtain ⟨B, hB⟩ : ∃ B, B = w.heap.size := ⟨_, rfl⟩
 have hrB : r < B := by omega
 have HB := Lib.hid hB
 have HR1 := Lib.hid (HR.out.below HB1.out)
 have HP1 : Hid (∃ ys, Own B w1 v1 A ys) := by
   rw [hB]
   exact ⟨y1, H1.out.1⟩
 clear c0 c1 hlt KS H1 hcl KN hB
 have c1 : w1.cell? ⟨r, 1, none⟩ = some (.int .i64 c) := box_cell HR1.out.box 1 _ rfl
 have hlt := box_lt HR1.out.box
 have hfz := box_frozen HR1.out.box 1
 have HMV := Lib.hid (HR1.out.move (c + A) (by omega))
 have HP2 : Hid (∃ ys, Own B (w1.setCell ⟨r, 1, none⟩ (.int .i64 ((c + A : Nat) : Int))) v1 A ys) := by
   obtain ⟨ys, h1⟩ := HP1.out
   refine ⟨ys, h1.keepAt (fun g e hl => HMV.out.2.block g hl (fun e2 => ?_))⟩
   injection e2 with e2
   have := (h1.blk5 g e).1
   omega
 have HG2 := Lib.hid (grown_trans (grown_of HB1.out) HMV.out.2)
 have HBs : Hid (B <= w1.heap.size) := (by have := HB1.out.size; have := HB.out; omega : B <= w1.heap.size)
 clear HP1
 have hcast : ((c + A : Nat) : Int) = (c : Int) + (A : Int) := by omega
 rw [hcast] at HMV HP2 HG2
 have HX := Lib.hid hGG
 clear hGG hcast
 go_wp2_with fail
 go_loopw [9, 51] (fun v z wr => z = .int .i64 0 /\ Hid (Rdr wr r (some ⟨b, o, none⟩) n c zs (c + A) /\ w.grownBy wr (some r))) (fun _ _ _ => 0)
 case atStart => exact ⟨rfl, HMV.out.1, HG2.out⟩
 case round =>
   obtain ⟨rfl, HK⟩ := hrel
   have hlt' : (0 : Int) < (Cn : Int) := by omega
   have hnm : gnm zs (c + A) = none := qgo_out (by have := HK.out.1.len; omega)
   have K1 := Lib.hid (rnm_no r (some ⟨b, o, none⟩) n c zs (c + A) wr HK.out.1 hnm)
   have HG := Lib.hid HK.out.2
   clear HK HMV HP2 HG2 HX HR1
   go_wp2_with fail
   refine K1.out.mono ?_
   rintro e3 w3 ⟨rfl, H3⟩
   go_wp2
   exact ⟨rfl, rfl, grown_trans HG.out H3.out⟩
set_option maxHeartbeats 1000000 in
theorem runsq_no3 (r : Nat) (a : Option Addr) (n c : Nat) (zs : List Int) (p t e : Nat) (w : World) (h : Rdr w r a n c zs p) (he : e <= n) (ha : ¬ p + ahd t <= e) :
   Calls Tryz.prog 159 #[.pointer (some ⟨r, 0, none⟩), .int .u16 t, .int .i64 e] w fun e' w' => e' = .panicked thrown /\ Hid (w.grownBy w' (some r)) := by
 have KN := fun W => Lib.hid (namesin_any t W)
 have KNo := fun W => Lib.hid (need_no W)
 generalize ahd t = A at *
 generalize cnt t = Cn at *
 have hn47 := h.big
 have hpn := h.pn
 have c1 : w.cell? ⟨r, 1, none⟩ = some (.int .i64 p) := box_cell h.box 1 _ rfl
 have hlt := box_lt h.box
 have k1 : (e : Int) - (p : Int) < (A : Int) := by omega
 clear h
 go_enter Tryz.func159, Tryz.ntmps159
 go_wp2_with fail
 refine (KN w).out.mono ?_
 rintro e1 w1 ⟨rfl, hw1⟩
 subst w1
 go_wp2_with fail
 rw [show decide ((A : Int) <= (e : Int) - (p : Int)) = false from (by simp; omega)]
 refine (KNo w).out.mono ?_
 rintro e1 w1 ⟨rfl, hw1⟩
 subst w1
 go_wp2
 exact ⟨rfl, rfl, World.grownBy.refl _ _⟩
theorem runsq_no (r : Nat) (b o n c : Nat) (zs : List Int) (p t e : Nat) (w : World) (h : Rdr w r (some ⟨b, o, none⟩) n c zs p) (h1 : 1 <= n) (hs : sqt t = true) (he : e <= n) (hpe : p <= e) (hx : gpl t zs p e = none) :
   Calls Tryz.prog 159 #[.pointer (some ⟨r, 0, none⟩), .int .u16 t, .int .i64 e] w fun e' w' => e' = .panicked thrown /\ Hid (w.grownBy w' (some r)) := by
 have hbw0 : b < w.heap.size := by
   rcases h.rd.1 with h0 | ⟨b', o', e', hb', _⟩
   · have := h.len; rw [h0] at this; simp at this; omega
   · cases e'; exact hb'
 by_cases ha : p + ahd t <= e
 · by_cases hcp : c = p
   · exact runsq_no2 r b o n c zs p t e w h hbw0 hs he hpe ha hx hcp
   · exact runsq_no1 r b o n c zs p t e w h hbw0 hs he hpe ha hx hcp
 · exact runsq_no3 r _ n c zs p t e w h he ha
end Go.Proofs.YteplffhfeoephaaGreat
namespace Go.Proofs.YteplffhfeoephaaGreat
open Go.ChangeShapes Go.WideShapes Go.ChangeAt Go.RowKit Go.Maps
theorem Own1.x {B : Nat} {w : World} {s : Sl} {nm : List ByteArray} (h : Own1 B w s nm) : Owx1 B w s nm := by
 obtain ⟨ys, ⟨h1, h2⟩, h3⟩ := h
 exact ⟨ys, ⟨h1, fun x hx => Nat.le_trans (h2 x hx) (by omega)⟩, h3⟩
theorem OwnN.x {B : Nat} {w : World} {v : Value} {nss : List (List ByteArray)} (h : OwnN B w v nss) : OwxN B w v nss := by
 obtain ⟨xs, h1, h2⟩ := h
 refine ⟨xs, h1, fun i hi => ?_⟩
 obtain ⟨s, e1, e2⟩ := h2 i hi
 exact ⟨s, e1, e2.x⟩
theorem DOwn.x {B : Nat} {w : World} {x : DA} {d : Dat} (h : DOwn B w x d) : DOwx B w x d := ⟨h.1.x, h.2.1, h.2.2.1.x, h.2.2.2⟩
theorem gdr_readF {t : Nat} {b : List Int} : (∀ d, gdr t b = some d -> readF t b = (d, 0)) /\ (gdr t b = none -> (readF t b).2 ≠ 0) := by
 unfold gdr readF
 constructor
 · intro d hd
   split at hd
   · next h => rw [if_pos h.1, if_pos h.2, hd]
   · cases hd
 · intro h
   split at h
   · next h1 => rw [if_pos h1.1, if_pos h1.2, h]; decide
   · next h1 =>
     split
     · next h2 =>
       rw [if_neg (fun h3 => h1 ⟨h2, h3⟩)]
       decide
     · decide
def RdDP (r b o n c : Nat) (zs : List Int) (w : World) (x : Dat × Nat) (e : Ending) (w' : World) : Prop := ∃ y : DA, e = .returned (.agg #[.slice y.p1.a y.p1.n y.p1.c, .slice y.p2.a y.p2.n y.p2.c, .slice y.p3.a y.p3.n y.p3.c, .slice y.p4.a y.p4.n y.p4.c]) /\ Hid (Rdr w' r (some ⟨b, o, none⟩) n c zs x.2 /\ DOwx w.heap.size w' y x.1 /\ w.grownBy w' (some r))
end Go.Proofs.YteplffhfeoephaaGreat
namespace Go.Proofs.YteplffhfeoephaaGreat
open Go.ChangeShapes Go.WideShapes Go.ChangeAt Go.RowKit Go.Maps
set_option maxHeartbeats 4000000 in
theorem rdata_sq_ok (r b o n c : Nat) (zs : List Int) (p t size : Nat) (w : World) (h : Rdr w r (some ⟨b, o, none⟩) n c zs p) (h1 : 1 <= n) (hz : size <= 65535) (hl : p + size <= n) (hs : sqt t = true) (L : List Int) (hL : gpl t zs p (p + size) = some L) (d : Dat) (hd : readF t L = (d, 0)) (hcp : ¬ c = p) :
   Calls Tryz.prog 139 #[.pointer (some ⟨r, 0, none⟩), .int .u16 t, .int .i64 size] w (RdDP r b o n c zs w (d, p + size)) := by
 have KY := fun W => Lib.hid (need_yes W)
 have KN := fun W => Lib.hid (need_no W)
 have KQ := fun W => Lib.hid (squeezed_any t W)
 have hn47 := h.big
 have hcap := h.cap
 have hlen := h.len
 have c0 : w.cell? ⟨r, 0, none⟩ = some (.slice (some ⟨b, o, none⟩) n c) := box_cell h.box 0 _ rfl
 have c1 : w.cell? ⟨r, 1, none⟩ = some (.int .i64 p) := box_cell h.box 1 _ rfl
 have hlt := box_lt h.box
 have hrw : r < w.heap.size := box_lt h.box
 have HR := Lib.hid h
 rw [hs] at KQ
 have k1 : (size : Int) <= (n : Int) - (p : Int) := by omega
 have hws : IntKind.i64.wrap ((p : Int) + (size : Int)) = (p : Int) + (size : Int) := wrap_in (by omega) (by omega)
 have b1 : (0 : Int) <= (p : Int) := by omega
 have b2 : (p : Int) <= (p : Int) + (size : Int) := by omega
 have b3 : (p : Int) + (size : Int) <= (c : Int) := by omega
 have b4 : ((p : Int) + (size : Int)).toNat - p = size := by omega
 have hb0 : Below w.heap.size w (w.alloc (.cells #[.slice none 0 0, .slice none 0 0, .slice none 0 0, .slice none 0 0] 59)) := newq_below _ _
 have HR0 := Lib.hid (h.below hb0)
 have hD0 : DBlk (w.alloc (.cells #[.slice none 0 0, .slice none 0 0, .slice none 0 0, .slice none 0 0] 59)) w.heap.size nilDA := by
   show (w.heap.push _)[w.heap.size]? = _
   simp
 have hsz0 : (w.alloc (.cells #[.slice none 0 0, .slice none 0 0, .slice none 0 0, .slice none 0 0] 59)).heap.size = w.heap.size + 1 := Array.size_push _
 have HD0 := Lib.hid hD0
 have HS0 := Lib.hid hsz0
 have HB0 := Lib.hid hb0
 obtain ⟨R, hR⟩ : ∃ R, R = w.heap.size := ⟨_, rfl⟩
 have HRR := Lib.hid hR
 rw [<- hR] at HD0 HS0
 clear h hD0 hsz0 hb0
 go_enter Tryz.func139, Tryz.ntmps139
 go_wp2_with fail
 simp only [<- hR]
 generalize w.alloc (.cells #[.slice none 0 0, .slice none 0 0, .slice none 0 0, .slice none 0 0] 59) = w0 at *
 clear c0 c1 hlt hR
 have c0 : w0.cell? ⟨r, 0, none⟩ = some (.slice (some ⟨b, o, none⟩) n c) := box_cell HR0.out.box 0 _ rfl
 have c1 : w0.cell? ⟨r, 1, none⟩ = some (.int .i64 p) := box_cell HR0.out.box 1 _ rfl
 have hlt := box_lt HR0.out.box
 go_quiet (first
   | (go_at_call 102; exact Calls.quiet_of_same (KY _).out))
 have HB1 := Lib.hid (below_dn w0 nq)
 generalize w0.drewN nq = w1 at *
 clear c0 c1 hlt
 have HR1 := Lib.hid (HR0.out.below HB1.out)
 have c0 : w1.cell? ⟨r, 0, none⟩ = some (.slice (some ⟨b, o, none⟩) n c) := box_cell HR1.out.box 0 _ rfl
 have c1 : w1.cell? ⟨r, 1, none⟩ = some (.int .i64 p) := box_cell HR1.out.box 1 _ rfl
 have hlt := box_lt HR1.out.box
 go_wp2_with fail
 go_quiet (fail)
 have HB2 := Lib.hid (below_dn w1 nq)
 generalize w1.drewN nq = w2 at *
 clear c0 c1 hlt
 have HR2 := Lib.hid (HR1.out.below HB2.out)
 have HD2 : Hid (DBlk w2 R nilDA) := (HB2.out.block R (by have := HB1.out.size; have := HS0.out; omega)).trans ((HB1.out.block R (by have := HS0.out; omega)).trans HD0.out)
 have HG2 : Hid (Below w.heap.size w w2) := HB0.out.trans ((HB1.out.mono (by have := HS0.out; have := HRR.out; omega)).trans (HB2.out.mono (by have := HB1.out.size; have := HS0.out; have := HRR.out; omega)))
 have HS2 : Hid (R < w2.heap.size) := (by have := HB1.out.size; have := HB2.out.size; have := HS0.out; omega : R < w2.heap.size)
 have hRw : r < R := by rw [HRR.out]; exact hrw
 clear HB0 HB1 HB2 HD0 HS0 HR0 HR1
 go_wp2_with fail
 refine (KQ w2).out.mono ?_
 rintro e1 w3 ⟨rfl, hw3⟩
 subst w3
 go_wp2_with fail
 refine (runsq_yes r b o n c zs p t (p + size) L w2 HR2.out hs hl (by omega) hL).mono ?_
 rintro e4 w4 ⟨s4, rfl, H4⟩
 have HR4 : Hid (∃ q, Rdr w4 r (some ⟨b, o, none⟩) n c zs q) := H4.out.2.1
 have HB4 : Hid (BRd w4 s4 L) := H4.out.1
 have HG4 : Hid (w.grownBy w4 (some r)) := grown_trans (grown_of HG2.out) H4.out.2.2
 have HD4 : Hid (DBlk w4 R nilDA) := (H4.out.2.2.block R HS2.out (fun e => by injection e with e; omega)).trans HD2.out
 have HS4 : Hid (R < w4.heap.size) := Nat.lt_of_lt_of_le HS2.out H4.out.2.2.size
 clear H4 HD2 HS2 HG2 HR2
 have K5 : Hid (Calls Tryz.prog 160 #[.int .u16 t, .slice s4.a s4.n s4.c] w4 (RdP (readF t L) w4)) := read5_any t s4.a s4.n s4.c L w4 HB4.out.rd HB4.out.len HB4.out.cap HB4.out.nil
 rw [hd] at K5
 go_wp2_with fail
 refine K5.out.mono ?_
 rintro e5 w5 ⟨x5, rfl, H5⟩
 have hn5 := newq_below w5 (.cells #[.slice x5.p1.a x5.p1.n x5.p1.c, .slice x5.p2.a x5.p2.n x5.p2.c, .slice x5.p3.a x5.p3.n x5.p3.c, .slice x5.p4.a x5.p4.n x5.p4.c] 59)
 obtain ⟨D, hD⟩ : ∃ D, D = w5.heap.size := ⟨_, rfl⟩
 have HB6 : Hid (Below w4.heap.size w4 (w5.alloc (.cells #[.slice x5.p1.a x5.p1.n x5.p1.c, .slice x5.p2.a x5.p2.n x5.p2.c, .slice x5.p3.a x5.p3.n x5.p3.c, .slice x5.p4.a x5.p4.n x5.p4.c] 59))) := H5.out.2.trans (hn5.mono H5.out.2.size)
 have HO6 : Hid (DOwx w4.heap.size (w5.alloc (.cells #[.slice x5.p1.a x5.p1.n x5.p1.c, .slice x5.p2.a x5.p2.n x5.p2.c, .slice x5.p3.a x5.p3.n x5.p3.c, .slice x5.p4.a x5.p4.n x5.p4.c] 59)) x5 d) := (H5.out.1.stays hn5).x
 have HD6 : Hid (DBlk (w5.alloc (.cells #[.slice x5.p1.a x5.p1.n x5.p1.c, .slice x5.p2.a x5.p2.n x5.p2.c, .slice x5.p3.a x5.p3.n x5.p3.c, .slice x5.p4.a x5.p4.n x5.p4.c] 59)) D x5) := by rw [hD]; exact heap_alloc_new _ _
 have hDs : w4.heap.size <= D := by rw [hD]; exact H5.out.2.size
 go_wp2_with fail
 rw [<- hD]
 generalize w5.alloc (.cells #[.slice x5.p1.a x5.p1.n x5.p1.c, .slice x5.p2.a x5.p2.n x5.p2.c, .slice x5.p3.a x5.p3.n x5.p3.c, .slice x5.p4.a x5.p4.n x5.p4.c] 59) = w6 at *
 clear hD hn5 H5 K5
 obtain ⟨q, hq⟩ := HR4.out
 have HR6 := Lib.hid (hq.below HB6.out)
 have HR6b : Hid (DBlk w6 R nilDA) := HD4.out.same (HB6.out.block R HS4.out)
 clear hq HR4
 refine (KY w6).out.mono ?_
 rintro e7 w7 ⟨rfl, hw7⟩
 subst w7
 have c1 : w6.cell? ⟨r, 1, none⟩ = some (.int .i64 q) := box_cell HR6.out.box 1 _ rfl
 have hlt := box_lt HR6.out.box
 have hfz := box_frozen HR6.out.box 1
 have HMV := Lib.hid (HR6.out.move (p + size) hl)
 have hcast : ((p + size : Nat) : Int) = (p : Int) + (size : Int) := by omega
 rw [hcast] at HMV
 clear hcast
 go_upto_region 9 with fail
 generalize w6.setCell ⟨r, 1, none⟩ (.int .i64 ((p : Int) + (size : Int))) = w7 at *
 have hRr : ¬ R = r := by omega
 have hDr : ¬ D = r := by have := HS4.out; omega
 have hDR : ¬ D = R := by have := HS4.out; omega
 have hRD : ¬ R = D := by have := HS4.out; omega
 have HD7 : Hid (DBlk w7 D x5) := HD6.out.same (HMV.out.2.block D HD6.out.lt (fun e => by injection e with e; exact hDr e))
 have HR7 : Hid (DBlk w7 R nilDA) := HR6b.out.same (HMV.out.2.block R HR6b.out.lt (fun e => by injection e with e; exact hRr e))
 have HO7 : Hid (DOwx w4.heap.size w7 x5 d) := HO6.out.keep (fun j hj hj2 => HMV.out.2.block j hj2 (fun e => by injection e with e; have := HS4.out; omega))
 have HG7 : Hid (w.grownBy w7 (some r)) := grown_trans (grown_trans HG4.out (grown_of HB6.out)) HMV.out.2
 have HM7 : Hid (Rdr w7 r (some ⟨b, o, none⟩) n c zs (p + size)) := HMV.out.1
 clear c1 hlt hfz HMV HO6 HD6 HR6 HR6b HB6
 have d0 : w7.cell? ⟨D, 0, none⟩ = some (.slice x5.p1.a x5.p1.n x5.p1.c) := HD7.out.box.1
 have d1 : w7.cell? ⟨D, 1, none⟩ = some (.slice x5.p2.a x5.p2.n x5.p2.c) := HD7.out.box.2.1
 have d2 : w7.cell? ⟨D, 2, none⟩ = some (.slice x5.p3.a x5.p3.n x5.p3.c) := HD7.out.box.2.2.1
 have d3 : w7.cell? ⟨D, 3, none⟩ = some (.slice x5.p4.a x5.p4.n x5.p4.c) := HD7.out.box.2.2.2.1
 have r0 : w7.cell? ⟨R, 0, none⟩ = some (.slice none 0 0) := HR7.out.box.1
 have r1 : w7.cell? ⟨R, 1, none⟩ = some (.slice none 0 0) := HR7.out.box.2.1
 have r2 : w7.cell? ⟨R, 2, none⟩ = some (.slice none 0 0) := HR7.out.box.2.2.1
 have r3 : w7.cell? ⟨R, 3, none⟩ = some (.slice none 0 0) := HR7.out.box.2.2.2.1
 have z0 := HR7.out.fz 0
 have z1 := HR7.out.fz 1
 have z2 := HR7.out.fz 2
 have z3 := HR7.out.fz 3
 have hl5 := HR7.out.lt
 go_wp2_with fail
 have HX : Hid (DBlk ((((w7.setCell ⟨R, 0, none⟩ (.slice x5.p1.a x5.p1.n x5.p1.c)).setCell ⟨R, 1, none⟩ (.slice x5.p2.a x5.p2.n x5.p2.c)).setCell ⟨R, 2, none⟩ (.slice x5.p3.a x5.p3.n x5.p3.c)).setCell ⟨R, 3, none⟩ (.slice x5.p4.a x5.p4.n x5.p4.c)) R x5) := set4_blk HR7.out x5
 have HY : Hid (DOwx w.heap.size ((((w7.setCell ⟨R, 0, none⟩ (.slice x5.p1.a x5.p1.n x5.p1.c)).setCell ⟨R, 1, none⟩ (.slice x5.p2.a x5.p2.n x5.p2.c)).setCell ⟨R, 2, none⟩ (.slice x5.p3.a x5.p3.n x5.p3.c)).setCell ⟨R, 3, none⟩ (.slice x5.p4.a x5.p4.n x5.p4.c)) x5 d) := HO7.out.ret4 HS4.out HG4.out.size
 have hg4 : w7.grownBy ((((w7.setCell ⟨R, 0, none⟩ (.slice x5.p1.a x5.p1.n x5.p1.c)).setCell ⟨R, 1, none⟩ (.slice x5.p2.a x5.p2.n x5.p2.c)).setCell ⟨R, 2, none⟩ (.slice x5.p3.a x5.p3.n x5.p3.c)).setCell ⟨R, 3, none⟩ (.slice x5.p4.a x5.p4.n x5.p4.c)) (some R) := set4_grown w7 R x5
 have hbw : b < w.heap.size := by
   rcases HR.out.rd.1 with h0 | ⟨b', o', e', hb', _⟩
   · have := HR.out.len; rw [h0] at this; simp at this; omega
   · cases e'; exact hb'
 have HZ : Hid (w.grownBy ((((w7.setCell ⟨R, 0, none⟩ (.slice x5.p1.a x5.p1.n x5.p1.c)).setCell ⟨R, 1, none⟩ (.slice x5.p2.a x5.p2.n x5.p2.c)).setCell ⟨R, 2, none⟩ (.slice x5.p3.a x5.p3.n x5.p3.c)).setCell ⟨R, 3, none⟩ (.slice x5.p4.a x5.p4.n x5.p4.c)) (some r)) := grown_apx HG7.out hg4 (fun j e => by injection e with e; rw [<- e, HRR.out]; exact Nat.le_refl _)
 have HV : Hid (Rdr ((((w7.setCell ⟨R, 0, none⟩ (.slice x5.p1.a x5.p1.n x5.p1.c)).setCell ⟨R, 1, none⟩ (.slice x5.p2.a x5.p2.n x5.p2.c)).setCell ⟨R, 2, none⟩ (.slice x5.p3.a x5.p3.n x5.p3.c)).setCell ⟨R, 3, none⟩ (.slice x5.p4.a x5.p4.n x5.p4.c)) r (some ⟨b, o, none⟩) n c zs (p + size)) := HM7.out.app hg4 (B := R) (by rw [HRR.out]; exact hbw) hRw (box_lt HM7.out.box) (Nat.lt_of_lt_of_le hbw HG7.out.size) (fun j e => by injection e with e; omega)
 clear hg4 d0 d1 d2 d3 r0 r1 r2 r3 z0 z1 z2 z3 hl5
 generalize ((((w7.setCell ⟨R, 0, none⟩ (.slice x5.p1.a x5.p1.n x5.p1.c)).setCell ⟨R, 1, none⟩ (.slice x5.p2.a x5.p2.n x5.p2.c)).setCell ⟨R, 2, none⟩ (.slice x5.p3.a x5.p3.n x5.p3.c)).setCell ⟨R, 3, none⟩ (.slice x5.p4.a x5.p4.n x5.p4.c)) = W9 at *
 have k0 := HX.out.box.1
 have k1 := HX.out.box.2.1
 have k2 := HX.out.box.2.2.1
 have k3 := HX.out.box.2.2.2.1
 try simp only at k0 k1 k2 k3
 exact bodyPost_ret (v := .agg #[.slice x5.p1.a x5.p1.n x5.p1.c, .slice x5.p2.a x5.p2.n x5.p2.c, .slice x5.p3.a x5.p3.n x5.p3.c, .slice x5.p4.a x5.p4.n x5.p4.c]) (by simp [results, Tryz.results139, go_sem, k0, k1, k2, k3]) rfl ⟨x5, rfl, HV.out, HY.out, HZ.out⟩
end Go.Proofs.YteplffhfeoephaaGreat
namespace Go.Proofs.YteplffhfeoephaaGreat
open Go.ChangeShapes Go.WideShapes Go.ChangeAt Go.RowKit Go.Maps
set_option maxHeartbeats 4000000 in
theorem rdata_sq_bad (r b o n c : Nat) (zs : List Int) (p t size : Nat) (w : World) (h : Rdr w r (some ⟨b, o, none⟩) n c zs p) (h1 : 1 <= n) (hz : size <= 65535) (hl : p + size <= n) (hs : sqt t = true) (L : List Int) (hL : gpl t zs p (p + size) = some L) (hd : (readF t L).2 ≠ 0) (hcp : ¬ c = p) :
   Calls Tryz.prog 139 #[.pointer (some ⟨r, 0, none⟩), .int .u16 t, .int .i64 size] w fun e w' => e = .panicked thrown /\ Hid (w.grownBy w' (some r)) := by
 have KY := fun W => Lib.hid (need_yes W)
 have KN := fun W => Lib.hid (need_no W)
 have KQ := fun W => Lib.hid (squeezed_any t W)
 have hn47 := h.big
 have hcap := h.cap
 have hlen := h.len
 have c0 : w.cell? ⟨r, 0, none⟩ = some (.slice (some ⟨b, o, none⟩) n c) := box_cell h.box 0 _ rfl
 have c1 : w.cell? ⟨r, 1, none⟩ = some (.int .i64 p) := box_cell h.box 1 _ rfl
 have hlt := box_lt h.box
 have hrw : r < w.heap.size := box_lt h.box
 have HR := Lib.hid h
 rw [hs] at KQ
 have k1 : (size : Int) <= (n : Int) - (p : Int) := by omega
 have hws : IntKind.i64.wrap ((p : Int) + (size : Int)) = (p : Int) + (size : Int) := wrap_in (by omega) (by omega)
 have b1 : (0 : Int) <= (p : Int) := by omega
 have b2 : (p : Int) <= (p : Int) + (size : Int) := by omega
 have b3 : (p : Int) + (size : Int) <= (c : Int) := by omega
 have b4 : ((p : Int) + (size : Int)).toNat - p = size := by omega
 have hb0 : Below w.heap.size w (w.alloc (.cells #[.slice none 0 0, .slice none 0 0, .slice none 0 0, .slice none 0 0] 59)) := newq_below _ _
 have HR0 := Lib.hid (h.below hb0)
 have hD0 : DBlk (w.alloc (.cells #[.slice none 0 0, .slice none 0 0, .slice none 0 0, .slice none 0 0] 59)) w.heap.size nilDA := by
   show (w.heap.push _)[w.heap.size]? = _
   simp
 have hsz0 : (w.alloc (.cells #[.slice none 0 0, .slice none 0 0, .slice none 0 0, .slice none 0 0] 59)).heap.size = w.heap.size + 1 := Array.size_push _
 have HD0 := Lib.hid hD0
 have HS0 := Lib.hid hsz0
 have HB0 := Lib.hid hb0
 obtain ⟨R, hR⟩ : ∃ R, R = w.heap.size := ⟨_, rfl⟩
 have HRR := Lib.hid hR
 rw [<- hR] at HD0 HS0
 clear h hD0 hsz0 hb0
 go_enter Tryz.func139, Tryz.ntmps139
 go_wp2_with fail
 simp only [<- hR]
 generalize w.alloc (.cells #[.slice none 0 0, .slice none 0 0, .slice none 0 0, .slice none 0 0] 59) = w0 at *
 clear c0 c1 hlt hR
 have c0 : w0.cell? ⟨r, 0, none⟩ = some (.slice (some ⟨b, o, none⟩) n c) := box_cell HR0.out.box 0 _ rfl
 have c1 : w0.cell? ⟨r, 1, none⟩ = some (.int .i64 p) := box_cell HR0.out.box 1 _ rfl
 have hlt := box_lt HR0.out.box
 go_quiet (first
   | (go_at_call 102; exact Calls.quiet_of_same (KY _).out))
 have HB1 := Lib.hid (below_dn w0 nq)
 generalize w0.drewN nq = w1 at *
 clear c0 c1 hlt
 have HR1 := Lib.hid (HR0.out.below HB1.out)
 have c0 : w1.cell? ⟨r, 0, none⟩ = some (.slice (some ⟨b, o, none⟩) n c) := box_cell HR1.out.box 0 _ rfl
 have c1 : w1.cell? ⟨r, 1, none⟩ = some (.int .i64 p) := box_cell HR1.out.box 1 _ rfl
 have hlt := box_lt HR1.out.box
 go_wp2_with fail
 go_quiet (fail)
 have HB2 := Lib.hid (below_dn w1 nq)
 generalize w1.drewN nq = w2 at *
 clear c0 c1 hlt
 have HR2 := Lib.hid (HR1.out.below HB2.out)
 have HD2 : Hid (DBlk w2 R nilDA) := (HB2.out.block R (by have := HB1.out.size; have := HS0.out; omega)).trans ((HB1.out.block R (by have := HS0.out; omega)).trans HD0.out)
 have HG2 : Hid (Below w.heap.size w w2) := HB0.out.trans ((HB1.out.mono (by have := HS0.out; have := HRR.out; omega)).trans (HB2.out.mono (by have := HB1.out.size; have := HS0.out; have := HRR.out; omega)))
 have HS2 : Hid (R < w2.heap.size) := (by have := HB1.out.size; have := HB2.out.size; have := HS0.out; omega : R < w2.heap.size)
 have hRw : r < R := by rw [HRR.out]; exact hrw
 clear HB0 HB1 HB2 HD0 HS0 HR0 HR1
 go_wp2_with fail
 refine (KQ w2).out.mono ?_
 rintro e1 w3 ⟨rfl, hw3⟩
 subst w3
 go_wp2_with fail
 refine (runsq_yes r b o n c zs p t (p + size) L w2 HR2.out hs hl (by omega) hL).mono ?_
 rintro e4 w4 ⟨s4, rfl, H4⟩
 have HR4 : Hid (∃ q, Rdr w4 r (some ⟨b, o, none⟩) n c zs q) := H4.out.2.1
 have HB4 : Hid (BRd w4 s4 L) := H4.out.1
 have HG4 : Hid (w.grownBy w4 (some r)) := grown_trans (grown_of HG2.out) H4.out.2.2
 have HD4 : Hid (DBlk w4 R nilDA) := (H4.out.2.2.block R HS2.out (fun e => by injection e with e; omega)).trans HD2.out
 have HS4 : Hid (R < w4.heap.size) := Nat.lt_of_lt_of_le HS2.out H4.out.2.2.size
 clear H4 HD2 HS2 HG2 HR2
 have K5 : Hid (Calls Tryz.prog 160 #[.int .u16 t, .slice s4.a s4.n s4.c] w4 (RdP (readF t L) w4)) := read5_any t s4.a s4.n s4.c L w4 HB4.out.rd HB4.out.len HB4.out.cap HB4.out.nil
 generalize readF t L = rr at *
 go_wp2_with fail
 refine K5.out.mono ?_
 rintro e5 w5 ⟨x5, rfl, H5⟩
 have hn5 := newq_below w5 (.cells #[.slice x5.p1.a x5.p1.n x5.p1.c, .slice x5.p2.a x5.p2.n x5.p2.c, .slice x5.p3.a x5.p3.n x5.p3.c, .slice x5.p4.a x5.p4.n x5.p4.c] 59)
 obtain ⟨D, hD⟩ : ∃ D, D = w5.heap.size := ⟨_, rfl⟩
 have HB6 : Hid (Below w4.heap.size w4 (w5.alloc (.cells #[.slice x5.p1.a x5.p1.n x5.p1.c, .slice x5.p2.a x5.p2.n x5.p2.c, .slice x5.p3.a x5.p3.n x5.p3.c, .slice x5.p4.a x5.p4.n x5.p4.c] 59))) := H5.out.2.trans (hn5.mono H5.out.2.size)
 have HO6 : Hid (DOwx w4.heap.size (w5.alloc (.cells #[.slice x5.p1.a x5.p1.n x5.p1.c, .slice x5.p2.a x5.p2.n x5.p2.c, .slice x5.p3.a x5.p3.n x5.p3.c, .slice x5.p4.a x5.p4.n x5.p4.c] 59)) x5 rr.1) := (H5.out.1.stays hn5).x
 have HD6 : Hid (DBlk (w5.alloc (.cells #[.slice x5.p1.a x5.p1.n x5.p1.c, .slice x5.p2.a x5.p2.n x5.p2.c, .slice x5.p3.a x5.p3.n x5.p3.c, .slice x5.p4.a x5.p4.n x5.p4.c] 59)) D x5) := by rw [hD]; exact heap_alloc_new _ _
 have hDs : w4.heap.size <= D := by rw [hD]; exact H5.out.2.size
 have hne : decide (rr.2 = 0) = false := by simp [hd]
 have hne2 : (rr.2 == 0) = false := by simp [hd]
 go_wp2_with fail
 generalize w5.alloc (.cells #[.slice x5.p1.a x5.p1.n x5.p1.c, .slice x5.p2.a x5.p2.n x5.p2.c, .slice x5.p3.a x5.p3.n x5.p3.c, .slice x5.p4.a x5.p4.n x5.p4.c] 59) = w6 at *
 refine (KN w6).out.mono ?_
 rintro e7 w7 ⟨rfl, hw7⟩
 subst w7
 go_wp2_with fail
 exact ⟨rfl, rfl, grown_trans HG4.out (grown_of HB6.out)⟩
end Go.Proofs.YteplffhfeoephaaGreat
namespace Go.Proofs.YteplffhfeoephaaGreat
open Go.ChangeShapes Go.WideShapes Go.ChangeAt Go.RowKit Go.Maps
set_option maxHeartbeats 4000000 in
theorem rdata_sq_no (r b o n c : Nat) (zs : List Int) (p t size : Nat) (w : World) (h : Rdr w r (some ⟨b, o, none⟩) n c zs p) (h1 : 1 <= n) (hz : size <= 65535) (hl : p + size <= n) (hs : sqt t = true) (hL : gpl t zs p (p + size) = none) (hcp : ¬ c = p) :
   Calls Tryz.prog 139 #[.pointer (some ⟨r, 0, none⟩), .int .u16 t, .int .i64 size] w fun e w' => e = .panicked thrown /\ Hid (w.grownBy w' (some r)) := by
 have KY := fun W => Lib.hid (need_yes W)
 have KN := fun W => Lib.hid (need_no W)
 have KQ := fun W => Lib.hid (squeezed_any t W)
 have hn47 := h.big
 have hcap := h.cap
 have hlen := h.len
 have c0 : w.cell? ⟨r, 0, none⟩ = some (.slice (some ⟨b, o, none⟩) n c) := box_cell h.box 0 _ rfl
 have c1 : w.cell? ⟨r, 1, none⟩ = some (.int .i64 p) := box_cell h.box 1 _ rfl
 have hlt := box_lt h.box
 have hrw : r < w.heap.size := box_lt h.box
 have HR := Lib.hid h
 rw [hs] at KQ
 have k1 : (size : Int) <= (n : Int) - (p : Int) := by omega
 have hws : IntKind.i64.wrap ((p : Int) + (size : Int)) = (p : Int) + (size : Int) := wrap_in (by omega) (by omega)
 have b1 : (0 : Int) <= (p : Int) := by omega
 have b2 : (p : Int) <= (p : Int) + (size : Int) := by omega
 have b3 : (p : Int) + (size : Int) <= (c : Int) := by omega
 have b4 : ((p : Int) + (size : Int)).toNat - p = size := by omega
 have hb0 : Below w.heap.size w (w.alloc (.cells #[.slice none 0 0, .slice none 0 0, .slice none 0 0, .slice none 0 0] 59)) := newq_below _ _
 have HR0 := Lib.hid (h.below hb0)
 have hD0 : DBlk (w.alloc (.cells #[.slice none 0 0, .slice none 0 0, .slice none 0 0, .slice none 0 0] 59)) w.heap.size nilDA := by
   show (w.heap.push _)[w.heap.size]? = _
   simp
 have hsz0 : (w.alloc (.cells #[.slice none 0 0, .slice none 0 0, .slice none 0 0, .slice none 0 0] 59)).heap.size = w.heap.size + 1 := Array.size_push _
 have HD0 := Lib.hid hD0
 have HS0 := Lib.hid hsz0
 have HB0 := Lib.hid hb0
 obtain ⟨R, hR⟩ : ∃ R, R = w.heap.size := ⟨_, rfl⟩
 have HRR := Lib.hid hR
 rw [<- hR] at HD0 HS0
 clear h hD0 hsz0 hb0
 go_enter Tryz.func139, Tryz.ntmps139
 go_wp2_with fail
 simp only [<- hR]
 generalize w.alloc (.cells #[.slice none 0 0, .slice none 0 0, .slice none 0 0, .slice none 0 0] 59) = w0 at *
 clear c0 c1 hlt hR
 have c0 : w0.cell? ⟨r, 0, none⟩ = some (.slice (some ⟨b, o, none⟩) n c) := box_cell HR0.out.box 0 _ rfl
 have c1 : w0.cell? ⟨r, 1, none⟩ = some (.int .i64 p) := box_cell HR0.out.box 1 _ rfl
 have hlt := box_lt HR0.out.box
 go_quiet (first
   | (go_at_call 102; exact Calls.quiet_of_same (KY _).out))
 have HB1 := Lib.hid (below_dn w0 nq)
 generalize w0.drewN nq = w1 at *
 clear c0 c1 hlt
 have HR1 := Lib.hid (HR0.out.below HB1.out)
 have c0 : w1.cell? ⟨r, 0, none⟩ = some (.slice (some ⟨b, o, none⟩) n c) := box_cell HR1.out.box 0 _ rfl
 have c1 : w1.cell? ⟨r, 1, none⟩ = some (.int .i64 p) := box_cell HR1.out.box 1 _ rfl
 have hlt := box_lt HR1.out.box
 go_wp2_with fail
 go_quiet (fail)
 have HB2 := Lib.hid (below_dn w1 nq)
 generalize w1.drewN nq = w2 at *
 clear c0 c1 hlt
 have HR2 := Lib.hid (HR1.out.below HB2.out)
 have HD2 : Hid (DBlk w2 R nilDA) := (HB2.out.block R (by have := HB1.out.size; have := HS0.out; omega)).trans ((HB1.out.block R (by have := HS0.out; omega)).trans HD0.out)
 have HG2 : Hid (Below w.heap.size w w2) := HB0.out.trans ((HB1.out.mono (by have := HS0.out; have := HRR.out; omega)).trans (HB2.out.mono (by have := HB1.out.size; have := HS0.out; have := HRR.out; omega)))
 have HS2 : Hid (R < w2.heap.size) := (by have := HB1.out.size; have := HB2.out.size; have := HS0.out; omega : R < w2.heap.size)
 have hRw : r < R := by rw [HRR.out]; exact hrw
 clear HB0 HB1 HB2 HD0 HS0 HR0 HR1
 go_wp2_with fail
 refine (KQ w2).out.mono ?_
 rintro e1 w3 ⟨rfl, hw3⟩
 subst w3
 go_wp2_with fail
 refine (runsq_no r b o n c zs p t (p + size) w2 HR2.out h1 hs hl (by omega) hL).mono ?_
 rintro e4 w4 ⟨rfl, H4⟩
 go_wp2_with fail
 exact ⟨rfl, rfl, grown_trans (grown_of HG2.out) H4.out⟩
end Go.Proofs.YteplffhfeoephaaGreat
namespace Go.Proofs.YteplffhfeoephaaGreat
open Go.ChangeShapes Go.WideShapes Go.ChangeAt Go.RowKit Go.Maps
set_option maxHeartbeats 4000000 in
theorem rdata_sq_no2 (r b o n c : Nat) (zs : List Int) (p t size : Nat) (w : World) (h : Rdr w r (some ⟨b, o, none⟩) n c zs p) (h1 : 1 <= n) (hz : size <= 65535) (hl : p + size <= n) (hs : sqt t = true) (hL : gpl t zs p (p + size) = none) (hcp : c = p) :
   Calls Tryz.prog 139 #[.pointer (some ⟨r, 0, none⟩), .int .u16 t, .int .i64 size] w fun e w' => e = .panicked thrown /\ Hid (w.grownBy w' (some r)) := by
 have KY := fun W => Lib.hid (need_yes W)
 have KN := fun W => Lib.hid (need_no W)
 have KQ := fun W => Lib.hid (squeezed_any t W)
 have hn47 := h.big
 have hcap := h.cap
 have hlen := h.len
 have c0 : w.cell? ⟨r, 0, none⟩ = some (.slice (some ⟨b, o, none⟩) n c) := box_cell h.box 0 _ rfl
 have c1 : w.cell? ⟨r, 1, none⟩ = some (.int .i64 p) := box_cell h.box 1 _ rfl
 have hlt := box_lt h.box
 have hrw : r < w.heap.size := box_lt h.box
 have HR := Lib.hid h
 rw [hs] at KQ
 have k1 : (size : Int) <= (n : Int) - (p : Int) := by omega
 have hws : IntKind.i64.wrap ((p : Int) + (size : Int)) = (p : Int) + (size : Int) := wrap_in (by omega) (by omega)
 have b1 : (0 : Int) <= (p : Int) := by omega
 have b2 : (p : Int) <= (p : Int) + (size : Int) := by omega
 have b3 : (p : Int) + (size : Int) <= (c : Int) := by omega
 have b4 : ((p : Int) + (size : Int)).toNat - p = size := by omega
 have hb0 : Below w.heap.size w (w.alloc (.cells #[.slice none 0 0, .slice none 0 0, .slice none 0 0, .slice none 0 0] 59)) := newq_below _ _
 have HR0 := Lib.hid (h.below hb0)
 have hD0 : DBlk (w.alloc (.cells #[.slice none 0 0, .slice none 0 0, .slice none 0 0, .slice none 0 0] 59)) w.heap.size nilDA := by
   show (w.heap.push _)[w.heap.size]? = _
   simp
 have hsz0 : (w.alloc (.cells #[.slice none 0 0, .slice none 0 0, .slice none 0 0, .slice none 0 0] 59)).heap.size = w.heap.size + 1 := Array.size_push _
 have HD0 := Lib.hid hD0
 have HS0 := Lib.hid hsz0
 have HB0 := Lib.hid hb0
 obtain ⟨R, hR⟩ : ∃ R, R = w.heap.size := ⟨_, rfl⟩
 have HRR := Lib.hid hR
 rw [<- hR] at HD0 HS0
 clear h hD0 hsz0 hb0
 go_enter Tryz.func139, Tryz.ntmps139
 go_wp2_with fail
 simp only [<- hR]
 generalize w.alloc (.cells #[.slice none 0 0, .slice none 0 0, .slice none 0 0, .slice none 0 0] 59) = w0 at *
 clear c0 c1 hlt hR
 have c0 : w0.cell? ⟨r, 0, none⟩ = some (.slice (some ⟨b, o, none⟩) n c) := box_cell HR0.out.box 0 _ rfl
 have c1 : w0.cell? ⟨r, 1, none⟩ = some (.int .i64 p) := box_cell HR0.out.box 1 _ rfl
 have hlt := box_lt HR0.out.box
 go_quiet (first
   | (go_at_call 102; exact Calls.quiet_of_same (KY _).out))
 have HB1 := Lib.hid (below_dn w0 nq)
 generalize w0.drewN nq = w1 at *
 clear c0 c1 hlt
 have HR1 := Lib.hid (HR0.out.below HB1.out)
 have c0 : w1.cell? ⟨r, 0, none⟩ = some (.slice (some ⟨b, o, none⟩) n c) := box_cell HR1.out.box 0 _ rfl
 have c1 : w1.cell? ⟨r, 1, none⟩ = some (.int .i64 p) := box_cell HR1.out.box 1 _ rfl
 have hlt := box_lt HR1.out.box
 go_wp2_with fail
 go_quiet (fail)
 have HB2 := Lib.hid (below_dn w1 nq)
 generalize w1.drewN nq = w2 at *
 clear c0 c1 hlt
 have HR2 := Lib.hid (HR1.out.below HB2.out)
 have HD2 : Hid (DBlk w2 R nilDA) := (HB2.out.block R (by have := HB1.out.size; have := HS0.out; omega)).trans ((HB1.out.block R (by have := HS0.out; omega)).trans HD0.out)
 have HG2 : Hid (Below w.heap.size w w2) := HB0.out.trans ((HB1.out.mono (by have := HS0.out; have := HRR.out; omega)).trans (HB2.out.mono (by have := HB1.out.size; have := HS0.out; have := HRR.out; omega)))
 have HS2 : Hid (R < w2.heap.size) := (by have := HB1.out.size; have := HB2.out.size; have := HS0.out; omega : R < w2.heap.size)
 have hRw : r < R := by rw [HRR.out]; exact hrw
 clear HB0 HB1 HB2 HD0 HS0 HR0 HR1
 go_wp2_with fail
 refine (KQ w2).out.mono ?_
 rintro e1 w3 ⟨rfl, hw3⟩
 subst w3
 go_wp2_with fail
 refine (runsq_no r b o n c zs p t (p + size) w2 HR2.out h1 hs hl (by omega) hL).mono ?_
 rintro e4 w4 ⟨rfl, H4⟩
 go_wp2_with fail
 exact ⟨rfl, rfl, grown_trans (grown_of HG2.out) H4.out⟩
end Go.Proofs.YteplffhfeoephaaGreat
namespace Go.Proofs.YteplffhfeoephaaGreat
open Go.ChangeShapes Go.WideShapes Go.ChangeAt Go.RowKit Go.Maps
set_option maxHeartbeats 4000000 in
theorem rdata_pl_ok (r b o n c : Nat) (zs : List Int) (p t size : Nat) (w : World) (h : Rdr w r (some ⟨b, o, none⟩) n c zs p) (h1 : 1 <= n) (hz : size <= 65535) (hl : p + size <= n) (hs : sqt t = false) (d : Dat) (hd : readF t ((zs.drop p).take size) = (d, 0)) (hcp : ¬ c = p) :
   Calls Tryz.prog 139 #[.pointer (some ⟨r, 0, none⟩), .int .u16 t, .int .i64 size] w (RdDP r b o n c zs w (d, p + size)) := by
 have KY := fun W => Lib.hid (need_yes W)
 have KN := fun W => Lib.hid (need_no W)
 have KQ := fun W => Lib.hid (squeezed_any t W)
 have hn47 := h.big
 have hcap := h.cap
 have hlen := h.len
 have c0 : w.cell? ⟨r, 0, none⟩ = some (.slice (some ⟨b, o, none⟩) n c) := box_cell h.box 0 _ rfl
 have c1 : w.cell? ⟨r, 1, none⟩ = some (.int .i64 p) := box_cell h.box 1 _ rfl
 have hlt := box_lt h.box
 have hrw : r < w.heap.size := box_lt h.box
 have HR := Lib.hid h
 rw [hs] at KQ
 have k1 : (size : Int) <= (n : Int) - (p : Int) := by omega
 have hws : IntKind.i64.wrap ((p : Int) + (size : Int)) = (p : Int) + (size : Int) := wrap_in (by omega) (by omega)
 have b1 : (0 : Int) <= (p : Int) := by omega
 have b2 : (p : Int) <= (p : Int) + (size : Int) := by omega
 have b3 : (p : Int) + (size : Int) <= (c : Int) := by omega
 have b4 : ((p : Int) + (size : Int)).toNat - p = size := by omega
 have hb0 : Below w.heap.size w (w.alloc (.cells #[.slice none 0 0, .slice none 0 0, .slice none 0 0, .slice none 0 0] 59)) := newq_below _ _
 have HR0 := Lib.hid (h.below hb0)
 have hD0 : DBlk (w.alloc (.cells #[.slice none 0 0, .slice none 0 0, .slice none 0 0, .slice none 0 0] 59)) w.heap.size nilDA := by
   show (w.heap.push _)[w.heap.size]? = _
   simp
 have hsz0 : (w.alloc (.cells #[.slice none 0 0, .slice none 0 0, .slice none 0 0, .slice none 0 0] 59)).heap.size = w.heap.size + 1 := Array.size_push _
 have HD0 := Lib.hid hD0
 have HS0 := Lib.hid hsz0
 have HB0 := Lib.hid hb0
 obtain ⟨R, hR⟩ : ∃ R, R = w.heap.size := ⟨_, rfl⟩
 have HRR := Lib.hid hR
 rw [<- hR] at HD0 HS0
 clear h hD0 hsz0 hb0
 go_enter Tryz.func139, Tryz.ntmps139
 go_wp2_with fail
 simp only [<- hR]
 generalize w.alloc (.cells #[.slice none 0 0, .slice none 0 0, .slice none 0 0, .slice none 0 0] 59) = w0 at *
 clear c0 c1 hlt hR
 have c0 : w0.cell? ⟨r, 0, none⟩ = some (.slice (some ⟨b, o, none⟩) n c) := box_cell HR0.out.box 0 _ rfl
 have c1 : w0.cell? ⟨r, 1, none⟩ = some (.int .i64 p) := box_cell HR0.out.box 1 _ rfl
 have hlt := box_lt HR0.out.box
 go_quiet (first
   | (go_at_call 102; exact Calls.quiet_of_same (KY _).out))
 have HB1 := Lib.hid (below_dn w0 nq)
 generalize w0.drewN nq = w1 at *
 clear c0 c1 hlt
 have HR1 := Lib.hid (HR0.out.below HB1.out)
 have c0 : w1.cell? ⟨r, 0, none⟩ = some (.slice (some ⟨b, o, none⟩) n c) := box_cell HR1.out.box 0 _ rfl
 have c1 : w1.cell? ⟨r, 1, none⟩ = some (.int .i64 p) := box_cell HR1.out.box 1 _ rfl
 have hlt := box_lt HR1.out.box
 go_wp2_with fail
 go_quiet (fail)
 have HB2 := Lib.hid (below_dn w1 nq)
 generalize w1.drewN nq = w2 at *
 clear c0 c1 hlt
 have HR2 := Lib.hid (HR1.out.below HB2.out)
 have HD2 : Hid (DBlk w2 R nilDA) := (HB2.out.block R (by have := HB1.out.size; have := HS0.out; omega)).trans ((HB1.out.block R (by have := HS0.out; omega)).trans HD0.out)
 have HG2 : Hid (Below w.heap.size w w2) := HB0.out.trans ((HB1.out.mono (by have := HS0.out; have := HRR.out; omega)).trans (HB2.out.mono (by have := HB1.out.size; have := HS0.out; have := HRR.out; omega)))
 have HS2 : Hid (R < w2.heap.size) := (by have := HB1.out.size; have := HB2.out.size; have := HS0.out; omega : R < w2.heap.size)
 have hRw : r < R := by rw [HRR.out]; exact hrw
 clear HB0 HB1 HB2 HD0 HS0 HR0 HR1
 go_wp2_with fail
 refine (KQ w2).out.mono ?_
 rintro e1 w3 ⟨rfl, hw3⟩
 subst w3
 go_wp2_with fail
 have HG4 : Hid (w.grownBy w2 (some r)) := grown_of HG2.out
 have HR4 : Hid (∃ q, Rdr w2 r (some ⟨b, o, none⟩) n c zs q) := ⟨p, HR2.out⟩
 have HD4 := HD2
 have HS4 := HS2
 have K5 : Hid (Calls Tryz.prog 160 #[.int .u16 t, .slice (some ⟨b, o + p, none⟩) size (c - p)] w2 (RdP (readF t ((zs.drop p).take size)) w2)) := by
   refine read5_any t _ size (c - p) ((zs.drop p).take size) w2 (HR2.out.rd.cut p size (by omega) (fun _ b' o' e' => by cases e'; first | rfl | omega)) (by simp; omega) ⟨by omega, by omega⟩ (fun e => by cases e)
 clear HD2 HS2 HG2 HR2
 generalize w2 = w4 at *
 rw [hd] at K5
 go_wp2_with fail
 refine K5.out.mono ?_
 rintro e5 w5 ⟨x5, rfl, H5⟩
 have hn5 := newq_below w5 (.cells #[.slice x5.p1.a x5.p1.n x5.p1.c, .slice x5.p2.a x5.p2.n x5.p2.c, .slice x5.p3.a x5.p3.n x5.p3.c, .slice x5.p4.a x5.p4.n x5.p4.c] 59)
 obtain ⟨D, hD⟩ : ∃ D, D = w5.heap.size := ⟨_, rfl⟩
 have HB6 : Hid (Below w4.heap.size w4 (w5.alloc (.cells #[.slice x5.p1.a x5.p1.n x5.p1.c, .slice x5.p2.a x5.p2.n x5.p2.c, .slice x5.p3.a x5.p3.n x5.p3.c, .slice x5.p4.a x5.p4.n x5.p4.c] 59))) := H5.out.2.trans (hn5.mono H5.out.2.size)
 have HO6 : Hid (DOwx w4.heap.size (w5.alloc (.cells #[.slice x5.p1.a x5.p1.n x5.p1.c, .slice x5.p2.a x5.p2.n x5.p2.c, .slice x5.p3.a x5.p3.n x5.p3.c, .slice x5.p4.a x5.p4.n x5.p4.c] 59)) x5 d) := (H5.out.1.stays hn5).x
 have HD6 : Hid (DBlk (w5.alloc (.cells #[.slice x5.p1.a x5.p1.n x5.p1.c, .slice x5.p2.a x5.p2.n x5.p2.c, .slice x5.p3.a x5.p3.n x5.p3.c, .slice x5.p4.a x5.p4.n x5.p4.c] 59)) D x5) := by rw [hD]; exact heap_alloc_new _ _
 have hDs : w4.heap.size <= D := by rw [hD]; exact H5.out.2.size
 go_wp2_with fail
 rw [<- hD]
 generalize w5.alloc (.cells #[.slice x5.p1.a x5.p1.n x5.p1.c, .slice x5.p2.a x5.p2.n x5.p2.c, .slice x5.p3.a x5.p3.n x5.p3.c, .slice x5.p4.a x5.p4.n x5.p4.c] 59) = w6 at *
 clear hD hn5 H5 K5
 obtain ⟨q, hq⟩ := HR4.out
 have HR6 := Lib.hid (hq.below HB6.out)
 have HR6b : Hid (DBlk w6 R nilDA) := HD4.out.same (HB6.out.block R HS4.out)
 clear hq HR4
 refine (KY w6).out.mono ?_
 rintro e7 w7 ⟨rfl, hw7⟩
 subst w7
 have c1 : w6.cell? ⟨r, 1, none⟩ = some (.int .i64 q) := box_cell HR6.out.box 1 _ rfl
 have hlt := box_lt HR6.out.box
 have hfz := box_frozen HR6.out.box 1
 have HMV := Lib.hid (HR6.out.move (p + size) hl)
 have hcast : ((p + size : Nat) : Int) = (p : Int) + (size : Int) := by omega
 rw [hcast] at HMV
 clear hcast
 go_upto_region 9 with fail
 generalize w6.setCell ⟨r, 1, none⟩ (.int .i64 ((p : Int) + (size : Int))) = w7 at *
 have hRr : ¬ R = r := by omega
 have hDr : ¬ D = r := by have := HS4.out; omega
 have hDR : ¬ D = R := by have := HS4.out; omega
 have hRD : ¬ R = D := by have := HS4.out; omega
 have HD7 : Hid (DBlk w7 D x5) := HD6.out.same (HMV.out.2.block D HD6.out.lt (fun e => by injection e with e; exact hDr e))
 have HR7 : Hid (DBlk w7 R nilDA) := HR6b.out.same (HMV.out.2.block R HR6b.out.lt (fun e => by injection e with e; exact hRr e))
 have HO7 : Hid (DOwx w4.heap.size w7 x5 d) := HO6.out.keep (fun j hj hj2 => HMV.out.2.block j hj2 (fun e => by injection e with e; have := HS4.out; omega))
 have HG7 : Hid (w.grownBy w7 (some r)) := grown_trans (grown_trans HG4.out (grown_of HB6.out)) HMV.out.2
 have HM7 : Hid (Rdr w7 r (some ⟨b, o, none⟩) n c zs (p + size)) := HMV.out.1
 clear c1 hlt hfz HMV HO6 HD6 HR6 HR6b HB6
 have d0 : w7.cell? ⟨D, 0, none⟩ = some (.slice x5.p1.a x5.p1.n x5.p1.c) := HD7.out.box.1
 have d1 : w7.cell? ⟨D, 1, none⟩ = some (.slice x5.p2.a x5.p2.n x5.p2.c) := HD7.out.box.2.1
 have d2 : w7.cell? ⟨D, 2, none⟩ = some (.slice x5.p3.a x5.p3.n x5.p3.c) := HD7.out.box.2.2.1
 have d3 : w7.cell? ⟨D, 3, none⟩ = some (.slice x5.p4.a x5.p4.n x5.p4.c) := HD7.out.box.2.2.2.1
 have r0 : w7.cell? ⟨R, 0, none⟩ = some (.slice none 0 0) := HR7.out.box.1
 have r1 : w7.cell? ⟨R, 1, none⟩ = some (.slice none 0 0) := HR7.out.box.2.1
 have r2 : w7.cell? ⟨R, 2, none⟩ = some (.slice none 0 0) := HR7.out.box.2.2.1
 have r3 : w7.cell? ⟨R, 3, none⟩ = some (.slice none 0 0) := HR7.out.box.2.2.2.1
 have z0 := HR7.out.fz 0
 have z1 := HR7.out.fz 1
 have z2 := HR7.out.fz 2
 have z3 := HR7.out.fz 3
 have hl5 := HR7.out.lt
 go_wp2_with fail
 have HX : Hid (DBlk ((((w7.setCell ⟨R, 0, none⟩ (.slice x5.p1.a x5.p1.n x5.p1.c)).setCell ⟨R, 1, none⟩ (.slice x5.p2.a x5.p2.n x5.p2.c)).setCell ⟨R, 2, none⟩ (.slice x5.p3.a x5.p3.n x5.p3.c)).setCell ⟨R, 3, none⟩ (.slice x5.p4.a x5.p4.n x5.p4.c)) R x5) := set4_blk HR7.out x5
 have HY : Hid (DOwx w.heap.size ((((w7.setCell ⟨R, 0, none⟩ (.slice x5.p1.a x5.p1.n x5.p1.c)).setCell ⟨R, 1, none⟩ (.slice x5.p2.a x5.p2.n x5.p2.c)).setCell ⟨R, 2, none⟩ (.slice x5.p3.a x5.p3.n x5.p3.c)).setCell ⟨R, 3, none⟩ (.slice x5.p4.a x5.p4.n x5.p4.c)) x5 d) := HO7.out.ret4 HS4.out HG4.out.size
 have hg4 : w7.grownBy ((((w7.setCell ⟨R, 0, none⟩ (.slice x5.p1.a x5.p1.n x5.p1.c)).setCell ⟨R, 1, none⟩ (.slice x5.p2.a x5.p2.n x5.p2.c)).setCell ⟨R, 2, none⟩ (.slice x5.p3.a x5.p3.n x5.p3.c)).setCell ⟨R, 3, none⟩ (.slice x5.p4.a x5.p4.n x5.p4.c)) (some R) := set4_grown w7 R x5
 have hbw : b < w.heap.size := by
   rcases HR.out.rd.1 with h0 | ⟨b', o', e', hb', _⟩
   · have := HR.out.len; rw [h0] at this; simp at this; omega
   · cases e'; exact hb'
 have HZ : Hid (w.grownBy ((((w7.setCell ⟨R, 0, none⟩ (.slice x5.p1.a x5.p1.n x5.p1.c)).setCell ⟨R, 1, none⟩ (.slice x5.p2.a x5.p2.n x5.p2.c)).setCell ⟨R, 2, none⟩ (.slice x5.p3.a x5.p3.n x5.p3.c)).setCell ⟨R, 3, none⟩ (.slice x5.p4.a x5.p4.n x5.p4.c)) (some r)) := grown_apx HG7.out hg4 (fun j e => by injection e with e; rw [<- e, HRR.out]; exact Nat.le_refl _)
 have HV : Hid (Rdr ((((w7.setCell ⟨R, 0, none⟩ (.slice x5.p1.a x5.p1.n x5.p1.c)).setCell ⟨R, 1, none⟩ (.slice x5.p2.a x5.p2.n x5.p2.c)).setCell ⟨R, 2, none⟩ (.slice x5.p3.a x5.p3.n x5.p3.c)).setCell ⟨R, 3, none⟩ (.slice x5.p4.a x5.p4.n x5.p4.c)) r (some ⟨b, o, none⟩) n c zs (p + size)) := HM7.out.app hg4 (B := R) (by rw [HRR.out]; exact hbw) hRw (box_lt HM7.out.box) (Nat.lt_of_lt_of_le hbw HG7.out.size) (fun j e => by injection e with e; omega)
 clear hg4 d0 d1 d2 d3 r0 r1 r2 r3 z0 z1 z2 z3 hl5
 generalize ((((w7.setCell ⟨R, 0, none⟩ (.slice x5.p1.a x5.p1.n x5.p1.c)).setCell ⟨R, 1, none⟩ (.slice x5.p2.a x5.p2.n x5.p2.c)).setCell ⟨R, 2, none⟩ (.slice x5.p3.a x5.p3.n x5.p3.c)).setCell ⟨R, 3, none⟩ (.slice x5.p4.a x5.p4.n x5.p4.c)) = W9 at *
 have k0 := HX.out.box.1
 have k1 := HX.out.box.2.1
 have k2 := HX.out.box.2.2.1
 have k3 := HX.out.box.2.2.2.1
 try simp only at k0 k1 k2 k3
 exact bodyPost_ret (v := .agg #[.slice x5.p1.a x5.p1.n x5.p1.c, .slice x5.p2.a x5.p2.n x5.p2.c, .slice x5.p3.a x5.p3.n x5.p3.c, .slice x5.p4.a x5.p4.n x5.p4.c]) (by simp [results, Tryz.results139, go_sem, k0, k1, k2, k3]) rfl ⟨x5, rfl, HV.out, HY.out, HZ.out⟩
end Go.Proofs.YteplffhfeoephaaGreat
