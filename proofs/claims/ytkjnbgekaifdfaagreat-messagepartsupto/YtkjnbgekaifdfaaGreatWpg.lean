/- Texts laid together, in parts: Mwa Mrb Mrc Mrd Mrd1 Mrd2 Mrd3 Mrd4 Mrd5 Mrd6 Mrd7 Mrd8 Mre Vs Vw Xc Xd Mrf. -/
import Derived.Test.YtkjnbgekaifdfaaGreatWpf
import Derived.Deep.CutBlock
import Derived.RegionDies
import Derived.Deep.RegionHeld3
import Derived.Lib.Hide
set_option maxRecDepth 100000
set_option linter.unusedVariables false
set_option linter.unusedSimpArgs false
namespace Go.Proofs.YtkjnbgekaifdfaaGreat
open Go.ChangeShapes Go.WideShapes Go.ChangeAt Go.RowKit Go.Maps
def tbk (w : World) (g : Nat) : Option Nat := match w.cell? ⟨g, 1, none⟩ with | some v => v.ownBlock | none => none
theorem tbk_same {w w' : World} {g : Nat} (h : w'.heap[g]? = w.heap[g]?) : tbk w' g = tbk w g := by
 unfold tbk World.cell?
 simp only [h]
theorem tbk_box {w : World} {g : Nat} {p v q : Value} {t : TypeId} (h : w.heap[g]? = some (.cells #[p, v, q] t)) : tbk w g = v.ownBlock := by
 unfold tbk
 rw [box_cell h 1 v rfl]
structure Fx (g : Nat) (w w' : World) : Prop where
 size : w.heap.size <= w'.heap.size
 row : ∀ (j : Nat) (cs : Array Value) (fr : Nat × Nat), w.heap[j]? = some (Obj.cells cs 5 fr) -> tbk w g ≠ some j -> w'.heap[j]? = w.heap[j]?
 toq : tbk w' g = tbk w g ∨ ∃ k, w.heap.size <= k /\ tbk w' g = some k
theorem Fx.refl (g : Nat) (w : World) : Fx g w w := ⟨Nat.le_refl _, fun _ _ _ _ _ => rfl, .inl rfl⟩
theorem Fx.trans {g : Nat} {a b c : World} (h : Fx g a b) (k : Fx g b c) : Fx g a c := by
 refine ⟨Nat.le_trans h.size k.size, fun j cs fr hj hn => ?_, ?_⟩
 · have e := h.row j cs fr hj hn
   refine (k.row j cs fr (e.trans hj) ?_).trans e
   rcases h.toq with e2 | ⟨m, hm, e2⟩
   · rw [e2]; exact hn
   · rw [e2]
     intro e3
     injection e3 with e3
     have := box_lt hj
     omega
 · rcases k.toq with e2 | ⟨m, hm, e2⟩
   · rw [e2]; exact h.toq
   · exact .inr ⟨m, Nat.le_trans h.size hm, e2⟩
theorem Fx.of {g : Nat} {w w' : World} (h : Below w.heap.size w w') (hg : g < w.heap.size) : Fx g w w' :=
 ⟨h.size, fun j cs fr hj _ => h.block j (box_lt hj), .inl (tbk_same (h.block g hg))⟩
theorem Fx.stored {g : Nat} {w1 w3 : World} {p v v' q p' q' : Value} (hb : w1.heap[g]? = some (.cells #[p, v, q] 125)) (hb' : w3.heap[g]? = some (.cells #[p', v', q'] 125)) (hs : w1.heap.size <= w3.heap.size)
   (hj : ∀ j, j < w1.heap.size -> j ≠ g -> v.ownBlock ≠ some j -> w3.heap[j]? = w1.heap[j]?) (hl : v'.ownBlock = v.ownBlock ∨ v'.ownBlock = some w1.heap.size) : Fx g w1 w3 := by
 refine ⟨hs, fun j cs fr h hn => ?_, ?_⟩
 · rw [tbk_box hb] at hn
   refine hj j (box_lt h) ?_ hn
   rintro rfl
   rw [hb] at h
   cases h
 · rw [tbk_box hb, tbk_box hb']
   rcases hl with e | e
   · exact .inl e
   · exact .inr ⟨_, Nat.le_refl _, e⟩
def NmPostx (B g : Nat) (r : Int × List Int × List (ByteArray × Nat)) (w : World) (e : Ending) (w' : World) : Prop := e = .returned (.int .i64 r.1) /\ Hid (Wr B w' g r.2.1 r.2.2 /\ Fr B w w' /\ Fx g w w')
theorem run_append_blk2 (w : World) (B : Nat) (ty : TypeId) (v : Value) (n : Nat) (zs : List Int) (hown : Own B w v n zs)
   (ao : Option Addr) (m c : Nat) (news : List Int) (hr : Rd w ao news) (hl : news.length = m) (hc : ao = none -> c = 0) (hb : n + m <= 140737488355328) (hB : B <= w.heap.size) :
   ∃ v' w' zs', (Builtin.append_ #[29, 29] ty #[v, .slice ao m c]).run Tryz.prog w = .ok v' w' /\ Own B w' v' (n + m) zs' /\ zs'.take (n + m) = zs.take n ++ news /\ w.grownBy w' v.ownBlock /\ (v'.ownBlock = v.ownBlock ∨ v'.ownBlock = some w.heap.size) := by
 obtain ⟨i, hi, hz0, hz1, hz2⟩ := info_parts Tryz.info5
 cases ao with
 | none =>
   have hnews : news = [] := by
     rcases hr.1 with h1 | ⟨b, o, h, _⟩
     · exact h1
     · cases h
   subst hnews; subst hl
   rw [hc rfl]
   refine ⟨v, w, zs, ?_, hown, by simp, World.grownBy.refl _ _, .inl rfl⟩
   rcases hown with ⟨rfl, rfl, rfl⟩ | ⟨g, rfl, hBg, hblk, hn, hm⟩
   · simp [Builtin.append_, run_underlying Tryz.underlying29, sizeOf, typeInfo, hi, Builtin.lenOf, Builtin.firstCells]
   · simp [Builtin.append_, run_underlying Tryz.underlying29, sizeOf, typeInfo, hi, Builtin.lenOf, Builtin.firstCells, hn, storeCells]
 | some a =>
   have hcs := rd_cells hr
   have hml : n + m <= maxLen := by simp only [maxLen]; omega
   have hlm : (news.map (Value.int .u8)).length = m * i.size := by rw [hz1]; simp [hl]
   have grown : ∀ (old : Nat), old < n + m -> ∀ (row : Option Nat), (n = 0 ∨ n <= zs.length) ->
       ∃ zs' : List Int, (.cells (((zs.take n).map (Value.int .u8)).toArray ++ (news.map (Value.int .u8)).toArray ++ Builtin.zeroCells (Value.int .u8 0).cells (grownCap w (n + m) old 5 - (n + m))) 5 : Obj) = .cells (zs'.map (Value.int .u8)).toArray 5 (0, 0) /\
       zs'.length = grownCap w (n + m) old 5 /\ zs'.take (n + m) = zs.take n ++ news /\ (∀ z ∈ zs', 0 <= z /\ z <= 255) := by
     intro old ho row hn
     have hge := grownCap_ge w (n + m) old 5
     have hzb : ∀ z ∈ zs, 0 <= z /\ z <= 255 := by
       rcases hown with ⟨_, _, rfl⟩ | ⟨g, _, _, hblk, _⟩
       · intro z hz; cases hz
       · exact hblk.2
     have htl : (zs.take n).length = n := by
       rcases hn with rfl | hn
       · simp
       · simp; omega
     refine ⟨zs.take n ++ news ++ List.replicate (grownCap w (n + m) old 5 - (n + m)) 0, ?_, ?_, ?_, ?_⟩
     · rw [zeros_eq]; simp
     · simp only [List.length_append, htl, hl, List.length_replicate]; omega
     · rw [List.take_append_of_le_length (by simp only [List.length_append, htl, hl]; omega)]
       exact List.take_of_length_le (by simp only [List.length_append, htl, hl]; omega)
     · intro z hz
       simp only [List.mem_append, List.mem_replicate] at hz
       rcases hz with (hz | hz) | ⟨_, rfl⟩
       · exact hzb z (List.mem_of_mem_take hz)
       · exact hr.2 z hz
       · omega
   have fresh : ∀ (old : Nat), old < n + m -> ∀ zs' : List Int, zs'.length = grownCap w (n + m) old 5 -> (∀ z ∈ zs', 0 <= z /\ z <= 255) ->
       Own B (w.drew.alloc (.cells (zs'.map (Value.int .u8)).toArray 5 (0, 0))) (.slice (some ⟨w.heap.size, 0, none⟩) (n + m) (grownCap w (n + m) old 5)) (n + m) zs' := by
     intro old ho zs' hzl hzb
     refine .inr ⟨w.heap.size, by rw [hzl], hB, ⟨heap_alloc_new w.drew _, hzb⟩, ?_, ?_⟩
     · rw [hzl]; exact grownCap_ge w (n + m) old 5
     · rw [hzl]; exact grownCap_le_maxLen w (n + m) old 5 hml
   rcases hown with ⟨rfl, rfl, rfl⟩ | ⟨g, rfl, hBg, hblk, hn, hm⟩
   · by_cases hm0 : m = 0
     · subst hm0
       have hnews : news = [] := List.eq_nil_of_length_eq_zero hl
       subst hnews
       refine ⟨.slice none 0 0, w, [], ?_, .inl ⟨rfl, rfl, rfl⟩, by simp, World.grownBy.refl _ _, .inl rfl⟩
       simp [Builtin.append_, run_underlying Tryz.underlying29, sizeOf, typeInfo, hi, Builtin.lenOf, Builtin.firstCells, loadCells, loadCellsFrom]
     · have hr' := run_append_nil (P := Tryz.prog) w 29 ty 5 i _ Tryz.underlying29 hi hz0 a m c (news.map (Value.int .u8)) hlm hcs (by omega) (by omega) (by rw [hz2]; omega)
       obtain ⟨zs', e1, e2, e3, e4⟩ := grown 0 (by omega) none (.inl rfl)
       have hf := fresh 0 (by omega) zs' e2 e4
       simp only [Nat.zero_add, List.take_nil, List.map_nil, List.nil_append, Array.empty_append, List.take_zero] at e1 e2 e3 hf ⊢
       rw [e1] at hr'
       exact ⟨_, _, zs', hr', hf, e3, ⟨rfl, rfl, rfl, by simp, fun k hk _ => Below.heap_alloc w.drew _ k hk⟩, .inr rfl⟩
   · by_cases hroom : n + m <= zs.length
     · have hr' := run_append_room (P := Tryz.prog) w 29 ty 5 i Tryz.underlying29 hi g n zs.length _ hblk.1 a m c (news.map (Value.int .u8)) hlm hcs (ints_oneCell _ _) hroom (by rw [hz1]; simp [hl]; omega)
       have e : (((zs.map (Value.int .u8)).toArray.toList.take (n * i.size)) ++ news.map (Value.int .u8) ++ (zs.map (Value.int .u8)).toArray.toList.drop (n * i.size + (news.map (Value.int .u8)).length)).toArray = ((zs.take n ++ news ++ zs.drop (n + m)).map (Value.int .u8)).toArray := by
         rw [hz1]; simp [hl]
       rw [e] at hr'
       have hlen : (zs.take n ++ news ++ zs.drop (n + m)).length = zs.length := by simp [hl]; omega
       refine ⟨_, _, zs.take n ++ news ++ zs.drop (n + m), hr', .inr ⟨g, by rw [hlen], hBg, ⟨setRow_heap w g _ _ 5 _ hblk.1, ?_⟩, by rw [hlen]; exact hroom, by rw [hlen]; exact hm⟩, ?_,
         ⟨rfl, rfl, rfl, by simp, fun k _ hk => setRow_other w g k _ (fun e => hk (by simp [Value.ownBlock, e]))⟩, .inl rfl⟩
       · intro z hz
         simp only [List.mem_append] at hz
         rcases hz with (hz | hz) | hz
         · exact hblk.2 z (List.mem_of_mem_take hz)
         · exact hr.2 z hz
         · exact hblk.2 z (List.mem_of_mem_drop hz)
       · rw [List.take_append_of_le_length (by simp [hl]; omega)]
         exact List.take_of_length_le (by simp [hl]; omega)
     · have holds : ∀ j u, ((zs.take n).map (Value.int .u8))[j]? = some u -> w.cell? ((⟨g, 0, none⟩ : Addr).add j) = some u := rd_cells (hblk.rd n)
       have hr' := run_append_grow (P := Tryz.prog) w 29 ty 5 i _ Tryz.underlying29 hi hz0 ⟨g, 0, none⟩ n zs.length ((zs.take n).map (Value.int .u8)) (by rw [hz1]; simp; omega) holds a m c (news.map (Value.int .u8)) hlm hcs (by omega) (by simp only [maxLen] at hml; omega) (growslice_fits (by omega) (by rw [hz2]; omega))
       obtain ⟨zs', e1, e2, e3, e4⟩ := grown zs.length (by omega) none (.inr hn)
       have hf := fresh zs.length (by omega) zs' e2 e4
       rw [e1] at hr'
       exact ⟨_, _, zs', hr', hf, e3, ⟨rfl, rfl, rfl, by simp, fun k hk _ => Below.heap_alloc w.drew _ k hk⟩, .inr rfl⟩
theorem wpList_append_blk2 (w : World) {ops : Array Oper} {rest : List Oper} {o : Oper} {a : Act} {Q : Exit -> Act -> World -> Prop} (hgd : o.guard = none) (s x : Operand)
   (ho : o.op = .call { callee := .builtin .append, args := #[s, x], argTypes := #[29, 29] }) (B : Nat) (v : Value) (n : Nat) (zs : List Int) (hs : a.eval s = v) (hown : Own B w v n zs)
   (ao : Option Addr) (m c : Nat) (news : List Int) (hx : a.eval x = .slice ao m c) (hr : Rd w ao news) (hl : news.length = m) (hc : ao = none -> c = 0) (hb : n + m <= 140737488355328) (hB : B <= w.heap.size)
   (h : ∀ v' w' zs', Hid (Own B w' v' (n + m) zs') -> Hid (zs'.take (n + m) = zs.take n ++ news) -> w.grownBy w' v.ownBlock -> (v'.ownBlock = v.ownBlock ∨ v'.ownBlock = some w.heap.size) -> wpList Tryz.prog ops Q rest (a.put o.dst v') w') : wpList Tryz.prog ops Q (o :: rest) a w := by
 refine wpList_plain hgd fun K hK => ?_
 obtain ⟨v', w', zs', hrun, h2, h3, h4, h5⟩ := run_append_blk2 w B o.type v n zs hown ao m c news hr hl hc hb hB
 unfold Oper.wp execOp
 simp only [ho, resolve, invoke, builtin, Sem.run_bind, Sem.run_pure, Result.andThen_ok, List.map_toArray, List.map_cons, List.map_nil, hs, hx, hrun]
 exact hK _ _ (h v' w' zs' h2 h3 h4 h5)
theorem Wr1.keptx {B : Nat} {w w' : World} {g : Nat} {tx : List Int} {pl pl' : List (ByteArray × Nat)} {v : Value} {ys : List Int} {mb : Nat} (h : Wr1 B w g tx pl v ys mb) (hg : w.grownBy w' (some mb)) (hm : PlM w' mb pl') (hB : B <= w.heap.size) : Wr1 B w' g tx pl' v ys mb /\ Fr B w w' /\ Fx g w w' := by
 obtain ⟨es, c, e⟩ := h.map.isMap
 refine ⟨⟨?_, h.gB, h.mB, ?_, h.txt, hm⟩, ⟨?_, ?_⟩, ?_⟩
 · refine (hg.block g (box_lt h.box) (fun e2 => ?_)).trans h.box
   simp only [Option.some.injEq] at e2
   subst e2; rw [h.box] at e; cases e
 · refine h.own.keepAt (fun k hk hl => hg.block k hl (fun e2 => ?_))
   simp only [Option.some.injEq] at e2
   subst e2
   obtain ⟨_, cs, e1⟩ := h.own.blk5 _ hk
   rw [e1] at e; cases e
 · exact (Below.refl B w).grown hg hB (fun k e2 => by simp only [Option.some.injEq] at e2; subst e2; exact h.mB)
 · intro j cs t fr hj _ _
   refine hg.block j (box_lt hj) (fun e2 => ?_)
   simp only [Option.some.injEq] at e2
   subst e2; rw [hj] at e; cases e
 · have hbx : w'.heap[g]? = w.heap[g]? := hg.block g (box_lt h.box) (fun e2 => by
     simp only [Option.some.injEq] at e2
     subst e2; rw [h.box] at e; cases e)
   refine ⟨hg.size, fun j cs fr hj _ => hg.block j (box_lt hj) (fun e2 => ?_), .inl (tbk_same hbx)⟩
   simp only [Option.some.injEq] at e2
   subst e2; rw [hj] at e; cases e
set_option maxHeartbeats 1000000 in
theorem wbytes1x (B g : Nat) (tx : List Int) (pl : List (ByteArray × Nat)) (v : Value) (ys : List Int) (mb : Nat) (a : Option Addr) (m c : Nat) (zs : List Int) (w : World) (h : Wr1 B w g tx pl v ys mb) (hB : B <= w.heap.size) (ht : tx.length <= 65535) (hr : Rd w a zs) (hl : zs.length = m) (hc : a = none -> c = 0) (hm : m <= 140737488355328) :
   Calls Tryz.prog 79 #[.pointer (some ⟨g, 0, none⟩), .slice a m c] w fun e w' => e = .returned (.int .i64 (if 65535 < tx.length + m then 3 else 0)) /\ Hid (Wr B w' g (if 65535 < tx.length + m then tx else tx ++ zs) pl /\ Fr B w w' /\ ∀ j, j < w.heap.size -> j ≠ g -> v.ownBlock ≠ some j -> w'.heap[j]? = w.heap[j]?) /\ Hid (Fx g w w') := by
 have hg := box_lt h.box
 have c0 : w.cell? ⟨g, 0, none⟩ = some (.pointer (some ⟨g, 0, none⟩)) := box_cell h.box 0 _ rfl
 have c1 : w.cell? ⟨g, 1, none⟩ = some v := box_cell h.box 1 _ rfl
 have f1 := box_frozen h.box 1
 have H : Hid (Wr1 B w g tx pl v ys mb) := h
 have HR : Hid (Rd w a zs) := hr
 have HL : Hid (zs.length = m) := hl
 obtain ⟨ao, hv, _⟩ := h.own.addr
 obtain ⟨n, hn⟩ : ∃ n, tx.length = n := ⟨_, rfl⟩
 have HN : Hid (tx.length = n) := hn
 rw [hn] at hv ht ⊢
 have KM := Lib.hid (made_yes g w c0 hg)
 have HO : Hid (Own B w v n ys) := by have := h.own; rw [hn] at this; exact this
 subst hv
 clear h hr hl hn
 by_cases hbig : 65535 < n + m
 · rw [if_pos hbig, if_pos hbig]
   have hbig' : 65535 - (n : Int) < (m : Int) := by omega
   go_enter Tryz.func79, Tryz.ntmps79
   go_wp2_with fail
   refine KM.out.mono ?_
   rintro e w1 ⟨rfl, rfl⟩
   go_wp2_with fail
   go_ret
   exact ⟨rfl, ⟨⟨_, _, _, H.out⟩, Fr.refl _ _, fun _ _ _ _ => rfl⟩, Fx.refl _ _⟩
 · rw [if_neg hbig, if_neg hbig]
   have hbig' : (m : Int) <= 65535 - (n : Int) := by omega
   go_enter Tryz.func79, Tryz.ntmps79
   go_wp2_with fail
   refine KM.out.mono ?_
   rintro e w1 ⟨rfl, rfl⟩
   go_wp2_with (at_builtin; refine wpList_append_blk2 _ rfl _ _ rfl B _ n ys rfl HO.out a m c zs rfl HR.out HL.out hc (by omega) hB ?_; intro v' w2 ys' hO' hT' hG' hL'; have HST := Lib.hid (H.out.stored hG' (tx' := tx ++ zs) (v' := v') (ys' := ys') (by rw [List.length_append, HN.out, HL.out]; exact hO'.out) (by rw [List.length_append, HN.out, HL.out, hT'.out]; have := H.out.txt; rw [HN.out] at this; rw [this]) hB); have hob := H.out.old hG'; have hg2 := box_lt hob.1; have d1 : w2.cell? ⟨g, 1, none⟩ = some (.slice ao n ys.length) := box_cell hob.1 1 _ rfl; have e1 := box_frozen hob.1 1; obtain ⟨ao', rfl, _⟩ := hO'.out.addr; have HJ : Hid (∀ j, j < w1.heap.size -> j ≠ g -> (Value.slice ao n ys.length).ownBlock ≠ some j -> (w2.setCell ⟨g, 1, none⟩ (.slice ao' (n + m) ys'.length)).heap[j]? = w1.heap[j]?) := (fun j hj hne hnb => ((grown_set w2 g 1 (.slice ao' (n + m) ys'.length)).block j (Nat.lt_of_lt_of_le hj hG'.size) (by simpa using hne)).trans (hG'.block j hj (fun e => hnb e.symm))); have HFX : Hid (Fx g w1 (w2.setCell ⟨g, 1, none⟩ (.slice ao' (n + m) ys'.length))) := (by have q1 := H.out.box; have q2 := HST.out.1.box; have q3 := Nat.le_trans hG'.size (grown_set w2 g 1 (.slice ao' (n + m) ys'.length)).size; have q4 := HJ.out; have q5 := Fx.stored q1 q2 q3 q4 hL'; exact q5); clear hG' hob hL')
   go_ret
   exact ⟨rfl, ⟨⟨_, _, _, HST.out.1⟩, HST.out.2, HJ.out⟩, HFX⟩
end Go.Proofs.YtkjnbgekaifdfaaGreat
namespace Go.Proofs.YtkjnbgekaifdfaaGreat
open Go.ChangeShapes Go.WideShapes Go.ChangeAt Go.RowKit Go.Maps
set_option maxHeartbeats 800000 in
theorem sclone_any (x : Addr) (len cap : Nat) (zs : List Int) (w : World) (hr : Rd w (some x) zs) (hl : zs.length = len) (hm : len <= 140737488355328) :
   Calls Tryz.prog 129 #[.slice (some x) len cap] w fun e w' => ∃ v ys, e = .returned v /\ Hid (Own w.heap.size w' v len ys /\ ys.take len = zs /\ Below w.heap.size w w') := by
 have HR : Hid (Rd w (some x) zs) := hr
 have HL : Hid (zs.length = len) := hl
 clear hr hl
 have hb1 : Below w.heap.size w (w.alloc (.cells #[] 5)) := (Below.refl _ _).alloc (Nat.le_refl _) _
 have hnil : ∀ W : World, (binOp .eql 29 (.slice (some x) len cap) (.slice none 0 0)).run Tryz.prog W = .ok (.bool false) W := fun W => Lib.run_eql_slice_nil W _ _ _ _ _ _ _ Tryz.underlying29
 go_enter Tryz.func129, Tryz.ntmps129
 go_wp2_with (at_builtin; refine wpList_append_blk _ rfl _ _ rfl w.heap.size _ 0 [] rfl (empty_own w) (some x) len cap zs rfl (HR.out.below hb1) HL.out (by simp) (by omega) (by simp) ?_; intro v' w' zs' hO hT hG)
 go_ret
 refine ⟨v', zs', rfl, ?_, ?_, ?_⟩
 · have h := hO.out
   rw [Nat.zero_add] at h
   exact h
 · have h := hT.out
   rw [Nat.zero_add] at h
   simpa using h
 · refine hb1.grown hG (by simp) ?_
   intro k hk
   have e : w.heap.size = k := Option.some.inj hk
   omega
theorem Owx1.nm {B : Nat} {w : World} {s : Sl} {ss : List ByteArray} (h : Owx1 B w s ss) (hk : nck ss = 0) : Nm w s.a s.n ss := ⟨h.rd.rd, h.rd.len, by have := (nck_small hk).1; omega⟩
theorem wrap_in {x : Int} (h0 : 0 <= x) (h1 : x <= 9223372036854775807) : IntKind.i64.wrap x = x := by
 have e : x % 2 ^ 64 = x := Int.emod_eq_of_lt h0 (by omega)
 simp only [IntKind.wrap, IntKind.bits, IntKind.signed, e]
 rw [if_neg]
 simp
 omega
theorem sqt_cnt {t : Nat} (h : sqt t = true) : 1 <= cnt t /\ cnt t <= 2 /\ ahd t <= 2 := by
 unfold sqt at h
 have := of_decide_eq_true h
 rcases this with rfl | rfl | rfl | rfl | rfl <;> decide
theorem gm_pos {zs : List Int} {k p : Nat} {x : List (List ByteArray) × Nat} (hk : 1 <= k) (h : gmany (gnm zs) k p = some x) : p < zs.length := by
 cases k with
 | zero => omega
 | succ k =>
   simp only [gmany, Option.bind_eq_some_iff] at h
   obtain ⟨y, hy, _⟩ := h
   have := gnm_ok hy
   omega
def PlS (B : Nat) (w : World) (v : Value) (m : Nat) (L : List Int) : Prop := ∃ ys, Own B w v m ys /\ ys.take m = L /\ L.length = m
theorem PlS.keep {B r m : Nat} {w w' : World} {v : Value} {L : List Int} (h : PlS B w v m L) (hg : w.grownBy w' (some r)) (hr : r < B) : PlS B w' v m L := by
 obtain ⟨ys, h1, h2, h3⟩ := h
 refine ⟨ys, h1.keepAt (fun g e hl => hg.block g hl (fun e2 => ?_)), h2, h3⟩
 injection e2 with e2
 obtain ⟨hB, _⟩ := h1.blk5 g e
 omega
theorem PlS.below {B m : Nat} {w w' : World} {v : Value} {L : List Int} (h : PlS B w v m L) (hb : Below w.heap.size w w') : PlS B w' v m L := by
 obtain ⟨ys, h1, h2, h3⟩ := h
 exact ⟨ys, h1.below hb, h2, h3⟩
theorem Rdr.app {w w' : World} {r b o n c q B : Nat} {zs : List Int} {ow : Option Nat} (h : Rdr w r (some ⟨b, o, none⟩) n c zs q) (hg : w.grownBy w' ow) (hb : b < B) (hr : r < B) (hrw : r < w.heap.size) (hbw : b < w.heap.size) (ho : ∀ j, ow = some j -> B <= j) : Rdr w' r (some ⟨b, o, none⟩) n c zs q := by
 refine ⟨(hg.block r hrw (fun e => ?_)).trans h.box, h.rd.of_blocks hg.size (fun b' o' e => ?_), h.len, h.cap, h.big, h.off, h.nil, h.pn⟩
 · have := ho r e.symm; omega
 · cases e
   exact hg.block b hbw (fun e => by have := ho b e.symm; omega)
theorem grown_apx {w w4 w5 : World} {r : Nat} {ow : Option Nat} (h : w.grownBy w4 (some r)) (hg : w4.grownBy w5 ow) (ho : ∀ j, ow = some j -> w.heap.size <= j) : w.grownBy w5 (some r) :=
 ⟨hg.os.trans h.os, hg.tape.trans h.tape, hg.output.trans h.output, Nat.le_trans h.size hg.size, fun j hj hne => (hg.block j (Nat.lt_of_lt_of_le hj h.size) (fun e => by have := ho j e.symm; omega)).trans (h.block j hj hne)⟩
set_option maxHeartbeats 4000000 in
theorem runsq_yes (r : Nat) (b o n c : Nat) (zs : List Int) (p t e : Nat) (L : List Int) (w : World) (h : Rdr w r (some ⟨b, o, none⟩) n c zs p) (hs : sqt t = true) (he : e <= n) (hsz : e <= p + 65535) (hx : gpl t zs p e = some L) :
   Calls Tryz.prog 115 #[.pointer (some ⟨r, 0, none⟩), .int .u16 t, .int .i64 e] w fun e' w' => ∃ s : Sl, e' = .returned (.slice s.a s.n s.c) /\ Hid (BRd w' s L /\ (∃ q, Rdr w' r (some ⟨b, o, none⟩) n c zs q) /\ w.grownBy w' (some r)) := by
 unfold gpl at hx
 rw [if_pos hs] at hx
 split at hx
 case isFalse => cases hx
 case isTrue ha =>
   simp only [Option.bind_eq_some_iff] at hx
   obtain ⟨x, hgm, hx⟩ := hx
   split at hx
   case isFalse => cases hx
   case isTrue hxe =>
     injection hx with hx
     obtain ⟨hc1, hc2, hA2⟩ := sqt_cnt hs
     have hps := gm_pos hc1 hgm
     rw [h.len] at hps
     have hpx := (gmany_behind _ _ x (by have := h.len; omega) hgm).1
     have KN := fun W => Lib.hid (namesin_any t W)
     have KY := fun W => Lib.hid (need_yes W)
     generalize ahd t = A at *
     generalize hCn : cnt t = Cn at *
     have hn47 := h.big
     have hcap := h.cap
     have hbw0 : b < w.heap.size := by
       rcases h.rd.1 with h0 | ⟨b', o', e', hb', _⟩
       · have := h.len; rw [h0] at this; simp at this; omega
       · cases e'; exact hb'
     have HbW := Lib.hid hbw0
     have HR := Lib.hid h
     have c0 : w.cell? ⟨r, 0, none⟩ = some (.slice (some ⟨b, o, none⟩) n c) := box_cell h.box 0 _ rfl
     have c1 : w.cell? ⟨r, 1, none⟩ = some (.int .i64 p) := box_cell h.box 1 _ rfl
     have hlt := box_lt h.box
     have k1 : (A : Int) <= (e : Int) - (p : Int) := by omega
     have hws : IntKind.i64.wrap ((p : Int) + (A : Int)) = (p : Int) + (A : Int) := wrap_in (by omega) (by omega)
     have b1 : (0 : Int) <= (p : Int) := by omega
     have b2 : (p : Int) <= (p : Int) + (A : Int) := by omega
     have b3 : (p : Int) + (A : Int) <= (c : Int) := by omega
     have b4 : ((p : Int) + (A : Int)).toNat - p = A := by omega
     have hpc : ¬ c = p := by omega
     have hcl : Hid (∀ W, Rd W (some ⟨b, o, none⟩) zs -> Calls Tryz.prog 129 #[.slice (some ⟨b, o + p, none⟩) A (c - p)] W fun e w' => ∃ v ys, e = .returned v /\ Hid (Own W.heap.size w' v A ys /\ ys.take A = (zs.drop p).take A /\ Below W.heap.size W w')) := by
       intro W hW
       have hl := h.len
       exact sclone_any ⟨b, o + p, none⟩ A (c - p) ((zs.drop p).take A) W (hW.cut p A (by omega) (fun _ b' o' e' => by cases e'; rfl)) (by simp; omega) (by omega)
     have KS : ∀ W, Below w.heap.size w W -> (W.cell? ⟨r, 0, none⟩ = some (.slice (some ⟨b, o, none⟩) n c) /\ W.cell? ⟨r, 1, none⟩ = some (.int .i64 p)) := fun W hW => ⟨box_cell (h.below hW).box 0 _ rfl, box_cell (h.below hW).box 1 _ rfl⟩
     clear h
     go_enter Tryz.func115, Tryz.ntmps115
     go_wp2_with fail
     refine (KN w).out.mono ?_
     rintro e1 w1 ⟨rfl, hw1⟩
     subst w1
     go_wp2_with fail
     refine (KY w).out.mono ?_
     rintro e1 w1 ⟨rfl, hw1⟩
     subst w1
     go_wp2_with fail
     go_region_held3 (fun W => W.cell? ⟨r, 0, none⟩ = some (.slice (some ⟨b, o, none⟩) n c) /\ W.cell? ⟨r, 1, none⟩ = some (.int .i64 p)) (first | exact KS _ HB1.out | exact KS _ (Below.refl w.heap.size w).drew | exact KS _ (Below.refl w.heap.size w)) (first
       | (go_at_call 129; refine Calls.mono (hcl.out _ (by first | exact HR.out.rd.drew | exact HR.out.rd)) ?_; rintro e1 w1 ⟨v1, y1, rfl, H1⟩; have HB1 : Hid (Below w.heap.size w w1) := (by first | exact Below.trans ((Below.refl w.heap.size w).drew) H1.out.2.2 | exact H1.out.2.2)))
     obtain ⟨B, hB⟩ : ∃ B, B = w.heap.size := ⟨_, rfl⟩
     have hrB : r < B := by omega
     have HB := Lib.hid hB
     have HR1 := Lib.hid (HR.out.below HB1.out)
     have HP1 : Hid (PlS B w1 v1 A ((zs.drop p).take A)) := by
       rw [hB]
       have hl := HR.out.len
       exact ⟨y1, H1.out.1, H1.out.2.1, by simp; omega⟩
     clear c0 c1 hlt KS H1 hcl KN hB
     have c1 : w1.cell? ⟨r, 1, none⟩ = some (.int .i64 p) := box_cell HR1.out.box 1 _ rfl
     have hlt := box_lt HR1.out.box
     have hfz := box_frozen HR1.out.box 1
     have HMV := Lib.hid (HR1.out.move (p + A) (by omega))
     have HP2 := Lib.hid (HP1.out.keep HMV.out.2 hrB)
     have HG2 := Lib.hid (grown_trans (grown_of HB1.out) HMV.out.2)
     have HBs : Hid (B <= w1.heap.size) := (by have := HB1.out.size; have := HB.out; omega : B <= w1.heap.size)
     clear HP1
     have hcast : ((p + A : Nat) : Int) = (p : Int) + (A : Int) := by omega
     rw [hcast] at HMV HP2 HG2
     have HX : Hid (gmany (gnm zs) Cn (p + A) = some x /\ (zs.drop p).take A ++ (x.1.flatMap nmB ++ (zs.drop x.2).take (e - x.2)) = L) := ⟨hgm, hx⟩
     clear hgm hx hcast
     go_wp2_with fail
     go_loopw [9, 51] (fun v z wr => ∃ k : Nat, k <= Cn /\ z = .int .i64 k /\ Hid (∃ (q m : Nat) (Lk : List Int) (y : List (List ByteArray) × Nat), PlS B wr v m Lk /\ Rdr wr r (some ⟨b, o, none⟩) n c zs q /\ w.grownBy wr (some r) /\ B <= wr.heap.size /\ gmany (gnm zs) (Cn - k) q = some y /\ y.2 = x.2 /\ Lk ++ y.1.flatMap nmB = (zs.drop p).take A ++ x.1.flatMap nmB /\ m <= 2 + 255 * k)) (fun _ z _ => Cn - (intOf z).toNat)
     case atStart =>
       refine ⟨0, Nat.zero_le _, rfl, p + A, A, _, x, HP2.out, HMV.out.1, HG2.out, ?_, HX.out.1, rfl, rfl, by omega⟩
       exact Nat.le_trans HBs.out HMV.out.2.size
     case round =>
       obtain ⟨k, hk, rfl, HK⟩ := hrel
       obtain ⟨q, m, Lk, y, g1, g2, g3, g4, g5, g6, g7, g8⟩ := HK.out
       obtain ⟨yk, hO, hT, hLm⟩ := g1
       obtain ⟨au, hu9, _⟩ := hO.addr
       subst hu9
       obtain ⟨YC, hYC⟩ : ∃ YC, yk.length = YC := ⟨_, rfl⟩
       rw [hYC] at hO HK ⊢
       have HYC := Lib.hid hYC
       clear hYC
       by_cases hlt2 : k < Cn
       · have hlt' : (k : Int) < (Cn : Int) := by omega
         have e1 : Cn - k = (Cn - (k + 1)) + 1 := by omega
         rw [e1] at g5
         simp only [gmany, Option.bind_eq_some_iff, Option.map_eq_some_iff] at g5
         obtain ⟨nm, hnm, y', hy', rfl⟩ := g5
         have hck := (gnm_ok hnm).1
         have K1 := Lib.hid (rnm_yes r (some ⟨b, o, none⟩) n c zs q nm wr g2 hnm)
         have HV : Hid (PlS B wr (.slice au m YC) m Lk /\ w.grownBy wr (some r) /\ B <= wr.heap.size /\ gmany (gnm zs) (Cn - (k + 1)) nm.2 = some y' /\ y'.2 = x.2 /\ Lk ++ (nmB nm.1 ++ y'.1.flatMap nmB) = (zs.drop p).take A ++ x.1.flatMap nmB /\ nck nm.1 = 0) := ⟨⟨yk, hO, hT, hLm⟩, g3, g4, hy', g6, by simpa using g7, hck⟩
         clear hO hT hLm HK g2 g3 g4 g6 g7 hnm hy' hck
         go_wp2_with fail
         refine K1.out.mono ?_
         rintro e3 w3 ⟨s3, rfl, H3⟩
         have KB := Lib.hid (pbytes_room s3.a s3.n s3.c nm.1 w3 (H3.out.2.1.nm HV.out.2.2.2.2.2.2))
         have hnb : nbytes nm.1 = (nmB nm.1, 0) := by unfold nbytes nmB; rw [if_pos HV.out.2.2.2.2.2.2]
         rw [hnb] at KB
         obtain ⟨N, hN⟩ : ∃ N, (nmB nm.1).length = N := ⟨_, rfl⟩
         simp only at KB
         rw [hN] at KB
         have hN255 : N <= 255 := by rw [<- hN, nmB_len]; exact (nck_small HV.out.2.2.2.2.2.2).1
         have HNN := Lib.hid hN
         clear hnb hN K1
         go_wp2_with fail
         refine KB.out.mono ?_
         rintro e4 w4 ⟨vb, yb, rfl, H4⟩
         obtain ⟨ab, rfl, hAb⟩ := H4.out.1.addr
         have HRb : Hid (Rd w4 ab (nmB nm.1) /\ (ab = none -> yb.length = 0)) := by
           have := hAb.rdTake N
           rw [H4.out.2.1] at this
           exact ⟨this, hAb.nil⟩
         have HP4 : Hid (PlS B w4 (.slice au m YC) m Lk) := (HV.out.1.keep H3.out.2.2 hrB).below H4.out.2.2.1
         obtain ⟨yk4, hO4, hT4, hL4⟩ := HP4.out
         have HO4 := Lib.hid hO4
         have HT4 : Hid (yk4.take m = Lk /\ Lk.length = m) := ⟨hT4, hL4⟩
         have HG4 : Hid (w.grownBy w4 (some r) /\ B <= w4.heap.size /\ Rdr w4 r (some ⟨b, o, none⟩) n c zs nm.2) := ⟨grown_trans (grown_trans HV.out.2.1 H3.out.2.2) (grown_of H4.out.2.2.1), Nat.le_trans HV.out.2.2.1 (Nat.le_trans H3.out.2.2.size H4.out.2.2.1.size), H3.out.1.below H4.out.2.2.1⟩
         clear hAb KB hO4 hT4 hL4 HP4
         go_wp2_with (at_builtin; refine wpList_append_blk2 _ rfl _ _ rfl B _ m yk4 rfl HO4.out ab N yb.length (nmB nm.1) rfl HRb.out.1 HNN.out HRb.out.2 (by omega) HG4.out.2.1 ?_; intro v5 w5 y5 hO5 hT5 hG5 hL5; have HW5 := Lib.hid hG5; have HL5 := Lib.hid hL5; clear hG5 hL5)
         refine ⟨⟨k + 1, by omega, by go_num, nm.2, m + N, Lk ++ nmB nm.1, y', ⟨y5, hO5.out, ?_, ?_⟩, ?_, ?_, ?_, HV.out.2.2.2.1, HV.out.2.2.2.2.1, ?_, by omega⟩, by simp [intOf]; omega⟩
         · rw [hT5.out, HT4.out.1]
         · rw [List.length_append, HT4.out.2, HNN.out]
         · exact HG4.out.2.2.app HW5.out (B := B) (by have := HbW.out; have := HB.out; omega) hrB (box_lt HG4.out.2.2.box) (by have := HbW.out; have := HB.out; have := HG4.out.2.1; omega) (fun j e => (HO4.out.blk5 j e).1)
         · exact grown_apx HG4.out.1 HW5.out (fun j e => by have := (HO4.out.blk5 j e).1; have := HB.out; omega)
         · exact Nat.le_trans HG4.out.2.1 HW5.out.size
         · rw [List.append_assoc]; exact HV.out.2.2.2.2.2.1
       · have hkk : k = Cn := by omega
         subst k
         have e0 : Cn - Cn = 0 := by omega
         rw [e0] at g5
         simp only [gmany, Option.some.injEq] at g5
         subst g5
         simp only [List.flatMap_nil, List.append_nil] at g7
         simp only at g6
         have hqn := g2.pn
         have HOr := Lib.hid hO
         have HTr : Hid (yk.take m = Lk /\ Lk.length = m /\ Lk = (zs.drop p).take A ++ x.1.flatMap nmB) := ⟨hT, hLm, g7⟩
         have HGr : Hid (Rdr wr r (some ⟨b, o, none⟩) n c zs q /\ w.grownBy wr (some r) /\ B <= wr.heap.size) := ⟨g2, g3, g4⟩
         have hLL : Hid (L = Lk ++ (zs.drop q).take (e - q) /\ m <= 600) := ⟨by rw [<- HX.out.2, g7, g6]; simp, by omega⟩
         have hqe : q <= e := by omega
         have hpq : p <= q := by omega
         have c0 : wr.cell? ⟨r, 0, none⟩ = some (.slice (some ⟨b, o, none⟩) n c) := box_cell g2.box 0 _ rfl
         have c1 : wr.cell? ⟨r, 1, none⟩ = some (.int .i64 q) := box_cell g2.box 1 _ rfl
         have hlt := box_lt g2.box
         have hqe' : (q : Int) <= (e : Int) := by omega
         have d1 : (0 : Int) <= (q : Int) := by omega
         have d3 : (e : Int) <= (c : Int) := by omega
         clear HK g2 g3 g4 g6 g7 hO hT hLm HX HMV HP2 HG2 HR1 k1 hws b1 b2 b3 b4 hpc
         go_wp2_with fail
         refine (KY wr).out.mono ?_
         rintro e1 w6 ⟨rfl, hw6⟩
         subst w6
         have KS : ∀ W, Below wr.heap.size wr W -> (W.cell? ⟨r, 0, none⟩ = some (.slice (some ⟨b, o, none⟩) n c) /\ W.cell? ⟨r, 1, none⟩ = some (.int .i64 q)) := fun W hW => ⟨box_cell (HGr.out.1.below hW).box 0 _ rfl, box_cell (HGr.out.1.below hW).box 1 _ rfl⟩
         have HEND : Hid (∀ v' w' zs', Own B w' v' (m + (e - q)) zs' -> zs'.take (m + (e - q)) = yk.take m ++ (zs.drop q).take (e - q) -> ∀ W, Below wr.heap.size wr W -> W.grownBy w' (Value.slice au m YC).ownBlock -> ∃ s : Sl, v' = .slice s.a s.n s.c /\ Hid (BRd w' s L /\ Rdr w' r (some ⟨b, o, none⟩) n c zs q /\ w.grownBy w' (some r))) := by
           intro v' w' zs' h1 h2 W hW h3
           obtain ⟨a', hv', hA'⟩ := h1.addr
           have hrd := hA'.rdTake (m + (e - q))
           rw [h2, HTr.out.1, <- hLL.out.1] at hrd
           have hle := hA'.le
           have hLlen : L.length = m + (e - q) := by rw [hLL.out.1, List.length_append, HTr.out.2.1, List.length_take, List.length_drop]; have := HGr.out.1.len; omega
           have hB1 := HB.out
           have hbb := HbW.out
           have hsz := hW.size
           refine ⟨⟨a', m + (e - q), zs'.length⟩, hv', ⟨hrd, hLlen, ⟨hle.1, by have := hle.2; simp only [maxLen] at this; exact this⟩, hA'.nil⟩, (HGr.out.1.below hW).app h3 (B := B) (by omega) hrB (Nat.lt_of_lt_of_le (box_lt HGr.out.1.box) hsz) (by have := HGr.out.2.2; omega) (fun j e => (HOr.out.blk5 j e).1), ?_⟩
           exact grown_apx (grown_trans HGr.out.2.1 (grown_of hW)) h3 (fun j e => by have := (HOr.out.blk5 j e).1; omega)
         by_cases hcq : c = q
         · have hz0 : (zs.drop q).take (e - q) = [] := by
             have h0 : e - q = 0 := by omega
             rw [h0]; simp
           have HC : Hid (∀ W, Below wr.heap.size wr W -> Rd W (some ⟨b, o, none⟩) ((zs.drop q).take (e - q))) := fun W _ => by rw [hz0]; exact ⟨.inl rfl, by simp⟩
           clear hz0
           have HLn : Hid (((zs.drop q).take (e - q)).length = e - q) := (show _ = _ by simp; have := HGr.out.1.len; omega)
           subst hcq
           go_wp2_with fail
           go_region_held3 (fun W => W.cell? ⟨r, 0, none⟩ = some (.slice (some ⟨b, o, none⟩) n c) /\ W.cell? ⟨r, 1, none⟩ = some (.int .i64 c)) (first | exact ⟨s7a, s7b⟩ | exact KS _ (Below.refl wr.heap.size wr).drew | exact KS _ (Below.refl wr.heap.size wr) | go_keep) (first
             | (refine step_append_blk rfl _ _ rfl B _ m yk rfl ?_ _ _ _ ((zs.drop c).take (e - c)) rfl ?_ (m + (e - c)) ?_ ?_ ?_ ?_ ?_ ?_; (first | exact HOr.out.below (Below.refl wr.heap.size wr).drew | exact HOr.out); exact HC.out _ (by first | exact (Below.refl wr.heap.size wr).drew | exact Below.refl wr.heap.size wr); exact HLn.out; rfl; (intro e9; first | rfl | cases e9); (have := hLL.out.2; omega); (first | exact HGr.out.2.2 | (simp; exact HGr.out.2.2)); intro v7 w7 y7 hO7 hT7 hG7; obtain ⟨s7, hv7, HZ7⟩ := HEND.out v7 w7 y7 hO7.out hT7.out _ (by first | exact (Below.refl wr.heap.size wr).drew | exact Below.refl wr.heap.size wr) hG7.out; have s7a : w7.cell? ⟨r, 0, none⟩ = some (.slice (some ⟨b, o, none⟩) n c) := box_cell HZ7.out.2.1.box 0 _ rfl; have s7b : w7.cell? ⟨r, 1, none⟩ = some (.int .i64 c) := box_cell HZ7.out.2.1.box 1 _ rfl; subst hv7))
           go_wp2
           go_ret
           exact ⟨s7, rfl, HZ7.out.1, ⟨_, HZ7.out.2.1⟩, HZ7.out.2.2⟩
         · have HC : Hid (∀ W, Below wr.heap.size wr W -> Rd W (some ⟨b, o + q, none⟩) ((zs.drop q).take (e - q))) := fun W hW => (HGr.out.1.below hW).rd.cut q (e - q) (by have := HGr.out.1.len; omega) (fun _ b' o' e' => by cases e'; rfl)
           have HLn : Hid (((zs.drop q).take (e - q)).length = e - q) := (show _ = _ by simp; have := HGr.out.1.len; omega)
           go_wp2_with fail
           go_region_held3 (fun W => W.cell? ⟨r, 0, none⟩ = some (.slice (some ⟨b, o, none⟩) n c) /\ W.cell? ⟨r, 1, none⟩ = some (.int .i64 q)) (first | exact ⟨s7a, s7b⟩ | exact KS _ (Below.refl wr.heap.size wr).drew | exact KS _ (Below.refl wr.heap.size wr) | go_keep) (first
             | (refine step_append_blk rfl _ _ rfl B _ m yk rfl ?_ _ _ _ ((zs.drop q).take (e - q)) rfl ?_ (m + (e - q)) ?_ ?_ ?_ ?_ ?_ ?_; (first | exact HOr.out.below (Below.refl wr.heap.size wr).drew | exact HOr.out); exact HC.out _ (by first | exact (Below.refl wr.heap.size wr).drew | exact Below.refl wr.heap.size wr); exact HLn.out; rfl; (intro e9; first | rfl | cases e9); (have := hLL.out.2; omega); (first | exact HGr.out.2.2 | (simp; exact HGr.out.2.2)); intro v7 w7 y7 hO7 hT7 hG7; obtain ⟨s7, hv7, HZ7⟩ := HEND.out v7 w7 y7 hO7.out hT7.out _ (by first | exact (Below.refl wr.heap.size wr).drew | exact Below.refl wr.heap.size wr) hG7.out; have s7a : w7.cell? ⟨r, 0, none⟩ = some (.slice (some ⟨b, o, none⟩) n c) := box_cell HZ7.out.2.1.box 0 _ rfl; have s7b : w7.cell? ⟨r, 1, none⟩ = some (.int .i64 q) := box_cell HZ7.out.2.1.box 1 _ rfl; subst hv7))
           go_wp2
           go_ret
           exact ⟨s7, rfl, HZ7.out.1, ⟨_, HZ7.out.2.1⟩, HZ7.out.2.2⟩
end Go.Proofs.YtkjnbgekaifdfaaGreat
namespace Go.Proofs.YtkjnbgekaifdfaaGreat
open Go.ChangeShapes Go.WideShapes Go.ChangeAt Go.RowKit Go.Maps
set_option maxHeartbeats 4000000 in
theorem runsq_no1 (r : Nat) (b o n c : Nat) (zs : List Int) (p t e : Nat) (w : World) (h : Rdr w r (some ⟨b, o, none⟩) n c zs p) (hbw0 : b < w.heap.size) (hs : sqt t = true) (he : e <= n) (hpe : p <= e) (ha : p + ahd t <= e) (hx : gpl t zs p e = none) (hcp : ¬ c = p) :
   Calls Tryz.prog 115 #[.pointer (some ⟨r, 0, none⟩), .int .u16 t, .int .i64 e] w fun e' w' => e' = .panicked thrown /\ Hid (w.grownBy w' (some r)) := by
 obtain ⟨hc1, hc2, hA2⟩ := sqt_cnt hs
 have KN := fun W => Lib.hid (namesin_any t W)
 have KY := fun W => Lib.hid (need_yes W)
 have KNo := fun W => Lib.hid (need_no W)
 obtain ⟨GG, hGG⟩ : ∃ GG, (gmany (gnm zs) (cnt t) (p + ahd t)).map (·.2) = GG := ⟨_, rfl⟩
 have HGG : Hid (∀ x2, GG = some x2 -> e < x2) := by
   intro x2 hx2
   unfold gpl at hx
   rw [if_pos hs, if_pos ha] at hx
   rw [hx2] at hGG
   simp only [Option.map_eq_some_iff] at hGG
   obtain ⟨y, hy, rfl⟩ := hGG
   rw [hy] at hx
   simp only [Option.bind_some] at hx
   split at hx
   · cases hx
   · omega
 clear hx
 generalize ahd t = A at *
 generalize hCn : cnt t = Cn at *
 have hn47 := h.big
 have hcap := h.cap
 have hpn := h.pn
 have HR := Lib.hid h
 have HbW := Lib.hid hbw0
 have c0 : w.cell? ⟨r, 0, none⟩ = some (.slice (some ⟨b, o, none⟩) n c) := box_cell h.box 0 _ rfl
 have c1 : w.cell? ⟨r, 1, none⟩ = some (.int .i64 p) := box_cell h.box 1 _ rfl
 have hlt := box_lt h.box
 have k1 : (A : Int) <= (e : Int) - (p : Int) := by omega
 have hws : IntKind.i64.wrap ((p : Int) + (A : Int)) = (p : Int) + (A : Int) := wrap_in (by omega) (by omega)
 have b1 : (0 : Int) <= (p : Int) := by omega
 have b2 : (p : Int) <= (p : Int) + (A : Int) := by omega
 have b3 : (p : Int) + (A : Int) <= (c : Int) := by omega
 have b4 : ((p : Int) + (A : Int)).toNat - p = A := by omega
 have hcl : Hid (∀ W, Rd W (some ⟨b, o, none⟩) zs -> Calls Tryz.prog 129 #[.slice (some ⟨b, o + p, none⟩) A (c - p)] W fun e w' => ∃ v ys, e = .returned v /\ Hid (Own W.heap.size w' v A ys /\ Below W.heap.size W w')) := by
   intro W hW
   have hl := h.len
   refine (sclone_any ⟨b, o + p, none⟩ A (c - p) ((zs.drop p).take A) W (hW.cut p A (by omega) (fun _ b' o' e' => by cases e'; rfl)) (by simp; omega) (by omega)).mono ?_
   rintro e w' ⟨v, ys, h1, h2⟩
   exact ⟨v, ys, h1, h2.out.1, h2.out.2.2⟩
 have KS : ∀ W, Below w.heap.size w W -> (W.cell? ⟨r, 0, none⟩ = some (.slice (some ⟨b, o, none⟩) n c) /\ W.cell? ⟨r, 1, none⟩ = some (.int .i64 p)) := fun W hW => ⟨box_cell (h.below hW).box 0 _ rfl, box_cell (h.below hW).box 1 _ rfl⟩
 clear h hbw0
 go_enter Tryz.func115, Tryz.ntmps115
 go_wp2_with fail
 refine (KN w).out.mono ?_
 rintro e1 w1 ⟨rfl, hw1⟩
 subst w1
 go_wp2_with fail
 refine (KY w).out.mono ?_
 rintro e1 w1 ⟨rfl, hw1⟩
 subst w1
 go_wp2_with fail
 go_region_held3 (fun W => W.cell? ⟨r, 0, none⟩ = some (.slice (some ⟨b, o, none⟩) n c) /\ W.cell? ⟨r, 1, none⟩ = some (.int .i64 p)) (first | exact KS _ HB1.out | exact KS _ (Below.refl w.heap.size w).drew | exact KS _ (Below.refl w.heap.size w)) (first
   | (go_at_call 129; refine Calls.mono (hcl.out _ (by first | exact HR.out.rd.drew | exact HR.out.rd)) ?_; rintro e1 w1 ⟨v1, y1, rfl, H1⟩; have HB1 : Hid (Below w.heap.size w w1) := (by first | exact Below.trans ((Below.refl w.heap.size w).drew) H1.out.2 | exact H1.out.2)))
 obtain ⟨B, hB⟩ : ∃ B, B = w.heap.size := ⟨_, rfl⟩
 have hrB : r < B := by omega
 have HB := Lib.hid hB
 have HR1 := Lib.hid (HR.out.below HB1.out)
 have HP1 : Hid (∃ ys, Own B w1 v1 A ys) := by
   rw [hB]
   exact ⟨y1, H1.out.1⟩
 clear c0 c1 hlt KS H1 hcl KN hB
 have c1 : w1.cell? ⟨r, 1, none⟩ = some (.int .i64 p) := box_cell HR1.out.box 1 _ rfl
 have hlt := box_lt HR1.out.box
 have hfz := box_frozen HR1.out.box 1
 have HMV := Lib.hid (HR1.out.move (p + A) (by omega))
 have HP2 : Hid (∃ ys, Own B (w1.setCell ⟨r, 1, none⟩ (.int .i64 ((p + A : Nat) : Int))) v1 A ys) := by
   obtain ⟨ys, h1⟩ := HP1.out
   refine ⟨ys, h1.keepAt (fun g e hl => HMV.out.2.block g hl (fun e2 => ?_))⟩
   injection e2 with e2
   have := (h1.blk5 g e).1
   omega
 have HG2 := Lib.hid (grown_trans (grown_of HB1.out) HMV.out.2)
 have HBs : Hid (B <= w1.heap.size) := (by have := HB1.out.size; have := HB.out; omega : B <= w1.heap.size)
 clear HP1
 have hcast : ((p + A : Nat) : Int) = (p : Int) + (A : Int) := by omega
 rw [hcast] at HMV HP2 HG2
 have HX := Lib.hid hGG
 clear hGG hcast
 go_wp2_with fail
 go_loopw [9, 51] (fun v z wr => ∃ k : Nat, k <= Cn /\ z = .int .i64 k /\ Hid (∃ (q m : Nat), (∃ ys, Own B wr v m ys) /\ Rdr wr r (some ⟨b, o, none⟩) n c zs q /\ w.grownBy wr (some r) /\ B <= wr.heap.size /\ (gmany (gnm zs) (Cn - k) q).map (·.2) = GG /\ m <= 2 + 255 * k)) (fun _ z _ => Cn - (intOf z).toNat)
 case atStart =>
   refine ⟨0, Nat.zero_le _, rfl, p + A, A, HP2.out, HMV.out.1, HG2.out, ?_, HX.out, by omega⟩
   exact Nat.le_trans HBs.out HMV.out.2.size
 case round =>
   obtain ⟨k, hk, rfl, HK⟩ := hrel
   obtain ⟨q, m, g1, g2, g3, g4, g5, g8⟩ := HK.out
   obtain ⟨yk, hO⟩ := g1
   obtain ⟨au, hu9, _⟩ := hO.addr
   subst hu9
   obtain ⟨YC, hYC⟩ : ∃ YC, yk.length = YC := ⟨_, rfl⟩
   rw [hYC] at hO HK ⊢
   clear hYC
   by_cases hlt2 : k < Cn
   · have hlt' : (k : Int) < (Cn : Int) := by omega
     have e1 : Cn - k = (Cn - (k + 1)) + 1 := by omega
     rw [e1] at g5
     simp only [gmany] at g5
     cases hnm : gnm zs q with
     | none =>
       have K1 := Lib.hid (rnm_no r (some ⟨b, o, none⟩) n c zs q wr g2 hnm)
       have HG := Lib.hid g3
       clear HK g2 g3 g4 g5 hO HMV HP2 HG2 HX HR1
       go_wp2_with fail
       refine K1.out.mono ?_
       rintro e3 w3 ⟨rfl, H3⟩
       go_wp2
       exact ⟨rfl, rfl, grown_trans HG.out H3.out⟩
     | some nm =>
       rw [hnm] at g5
       simp only [Option.bind_some, Option.map_map, Function.comp_def] at g5
       have hck := (gnm_ok hnm).1
       have K1 := Lib.hid (rnm_yes r (some ⟨b, o, none⟩) n c zs q nm wr g2 hnm)
       have HV : Hid ((∃ ys, Own B wr (.slice au m YC) m ys) /\ w.grownBy wr (some r) /\ B <= wr.heap.size /\ (gmany (gnm zs) (Cn - (k + 1)) nm.2).map (fun x => x.2) = GG /\ nck nm.1 = 0) := ⟨⟨yk, hO⟩, g3, g4, g5, hck⟩
       clear hO HK g2 g3 g4 g5 hnm hck
       go_wp2_with fail
       refine K1.out.mono ?_
       rintro e3 w3 ⟨s3, rfl, H3⟩
       have KB := Lib.hid (pbytes_room s3.a s3.n s3.c nm.1 w3 (H3.out.2.1.nm HV.out.2.2.2.2))
       have hnb : nbytes nm.1 = (nmB nm.1, 0) := by unfold nbytes nmB; rw [if_pos HV.out.2.2.2.2]
       rw [hnb] at KB
       obtain ⟨N, hN⟩ : ∃ N, (nmB nm.1).length = N := ⟨_, rfl⟩
       simp only at KB
       rw [hN] at KB
       have hN255 : N <= 255 := by rw [<- hN, nmB_len]; exact (nck_small HV.out.2.2.2.2).1
       have HNN := Lib.hid hN
       clear hnb hN K1
       go_wp2_with fail
       refine KB.out.mono ?_
       rintro e4 w4 ⟨vb, yb, rfl, H4⟩
       obtain ⟨ab, rfl, hAb⟩ := H4.out.1.addr
       have HRb : Hid (Rd w4 ab (nmB nm.1) /\ (ab = none -> yb.length = 0)) := by
         have := hAb.rdTake N
         rw [H4.out.2.1] at this
         exact ⟨this, hAb.nil⟩
       have HP4 : Hid (∃ ys, Own B w4 (.slice au m YC) m ys) := by
         obtain ⟨ys, h1⟩ := HV.out.1
         refine ⟨ys, (h1.keepAt (fun g e hl => H3.out.2.2.block g hl (fun e2 => ?_))).below H4.out.2.2.1⟩
         injection e2 with e2
         have := (h1.blk5 g e).1
         omega
       obtain ⟨yk4, hO4⟩ := HP4.out
       have HO4 := Lib.hid hO4
       have HG4 : Hid (w.grownBy w4 (some r) /\ B <= w4.heap.size /\ Rdr w4 r (some ⟨b, o, none⟩) n c zs nm.2) := ⟨grown_trans (grown_trans HV.out.2.1 H3.out.2.2) (grown_of H4.out.2.2.1), Nat.le_trans HV.out.2.2.1 (Nat.le_trans H3.out.2.2.size H4.out.2.2.1.size), H3.out.1.below H4.out.2.2.1⟩
       clear hAb KB hO4 HP4
       go_wp2_with (at_builtin; refine wpList_append_blk2 _ rfl _ _ rfl B _ m yk4 rfl HO4.out ab N yb.length (nmB nm.1) rfl HRb.out.1 HNN.out HRb.out.2 (by omega) HG4.out.2.1 ?_; intro v5 w5 y5 hO5 hT5 hG5 hL5; have HW5 := Lib.hid hG5; clear hG5 hL5)
       refine ⟨⟨k + 1, by omega, by go_num, nm.2, m + N, ⟨y5, hO5.out⟩, ?_, ?_, ?_, HV.out.2.2.2.1, by omega⟩, by simp [intOf]; omega⟩
       · exact HG4.out.2.2.app HW5.out (B := B) (by have := HbW.out; have := HB.out; omega) hrB (box_lt HG4.out.2.2.box) (by have := HbW.out; have := HB.out; have := HG4.out.2.1; omega) (fun j e => (HO4.out.blk5 j e).1)
       · exact grown_apx HG4.out.1 HW5.out (fun j e => by have := (HO4.out.blk5 j e).1; have := HB.out; omega)
       · exact Nat.le_trans HG4.out.2.1 HW5.out.size
   · have hkk : k = Cn := by omega
     subst k
     have e0 : Cn - Cn = 0 := by omega
     rw [e0] at g5
     simp only [gmany, Option.map_some] at g5
     have hqe := HGG.out q g5.symm
     have hqe' : (e : Int) < (q : Int) := by omega
     have hqp := g2.pn
     have HGr := Lib.hid g3
     have c1 : wr.cell? ⟨r, 1, none⟩ = some (.int .i64 q) := box_cell g2.box 1 _ rfl
     have hlt := box_lt g2.box
     clear HK g2 g3 g4 g5 hO HMV HP2 HG2 HX HR1 k1 hws b1 b2 b3 b4
     go_wp2_with fail
     rw [show decide (q <= e) = false from (by simp; omega)]
     refine (KNo wr).out.mono ?_
     rintro e1 w6 ⟨rfl, hw6⟩
     subst w6
     go_wp2
     exact ⟨rfl, rfl, HGr.out⟩
set_option maxHeartbeats 4000000 in
theorem runsq_no2 (r : Nat) (b o n c : Nat) (zs : List Int) (p t e : Nat) (w : World) (h : Rdr w r (some ⟨b, o, none⟩) n c zs p) (hbw0 : b < w.heap.size) (hs : sqt t = true) (he : e <= n) (hpe : p <= e) (ha : p + ahd t <= e) (hx : gpl t zs p e = none) (hcp : c = p) :
   Calls Tryz.prog 115 #[.pointer (some ⟨r, 0, none⟩), .int .u16 t, .int .i64 e] w fun e' w' => e' = .panicked thrown /\ Hid (w.grownBy w' (some r)) := by
 obtain ⟨hc1, hc2, hA2⟩ := sqt_cnt hs
 have KN := fun W => Lib.hid (namesin_any t W)
 have KY := fun W => Lib.hid (need_yes W)
 have KNo := fun W => Lib.hid (need_no W)
 obtain ⟨GG, hGG⟩ : ∃ GG, (gmany (gnm zs) (cnt t) (p + ahd t)).map (·.2) = GG := ⟨_, rfl⟩
 have HGG : Hid (∀ x2, GG = some x2 -> e < x2) := by
   intro x2 hx2
   unfold gpl at hx
   rw [if_pos hs, if_pos ha] at hx
   rw [hx2] at hGG
   simp only [Option.map_eq_some_iff] at hGG
   obtain ⟨y, hy, rfl⟩ := hGG
   rw [hy] at hx
   simp only [Option.bind_some] at hx
   split at hx
   · cases hx
   · omega
 clear hx
 generalize ahd t = A at *
 generalize hCn : cnt t = Cn at *
 have hn47 := h.big
 have hcap := h.cap
 have hpn := h.pn
 have HR := Lib.hid h
 have HbW := Lib.hid hbw0
 have c0 : w.cell? ⟨r, 0, none⟩ = some (.slice (some ⟨b, o, none⟩) n c) := box_cell h.box 0 _ rfl
 have c1 : w.cell? ⟨r, 1, none⟩ = some (.int .i64 p) := box_cell h.box 1 _ rfl
 have hlt := box_lt h.box
 have k1 : (A : Int) <= (e : Int) - (p : Int) := by omega
 have hws : IntKind.i64.wrap ((p : Int) + (A : Int)) = (p : Int) + (A : Int) := wrap_in (by omega) (by omega)
 have b1 : (0 : Int) <= (p : Int) := by omega
 have b2 : (p : Int) <= (p : Int) + (A : Int) := by omega
 have b3 : (p : Int) + (A : Int) <= (c : Int) := by omega
 have b4 : ((p : Int) + (A : Int)).toNat - p = A := by omega
 have hA0 : A = 0 := by omega
 have hcl : Hid (∀ W, Rd W (some ⟨b, o, none⟩) zs -> Calls Tryz.prog 129 #[.slice (some ⟨b, o, none⟩) A 0] W fun e w' => ∃ v ys, e = .returned v /\ Hid (Own W.heap.size w' v A ys /\ Below W.heap.size W w')) := by
   intro W hW
   refine (sclone_any ⟨b, o, none⟩ A 0 [] W ⟨.inl rfl, by simp⟩ (by simp; omega) (by omega)).mono ?_
   rintro e w' ⟨v, ys, h1, h2⟩
   exact ⟨v, ys, h1, h2.out.1, h2.out.2.2⟩
 clear hA0
 have KS : ∀ W, Below w.heap.size w W -> (W.cell? ⟨r, 0, none⟩ = some (.slice (some ⟨b, o, none⟩) n c) /\ W.cell? ⟨r, 1, none⟩ = some (.int .i64 p)) := fun W hW => ⟨box_cell (h.below hW).box 0 _ rfl, box_cell (h.below hW).box 1 _ rfl⟩
 clear h hbw0
 obtain rfl : c = p := hcp
 go_enter Tryz.func115, Tryz.ntmps115
 go_wp2_with fail
 refine (KN w).out.mono ?_
 rintro e1 w1 ⟨rfl, hw1⟩
 subst w1
 go_wp2_with fail
 refine (KY w).out.mono ?_
 rintro e1 w1 ⟨rfl, hw1⟩
 subst w1
 go_wp2_with fail
 go_region_held3 (fun W => W.cell? ⟨r, 0, none⟩ = some (.slice (some ⟨b, o, none⟩) n c) /\ W.cell? ⟨r, 1, none⟩ = some (.int .i64 c)) (first | exact KS _ HB1.out | exact KS _ (Below.refl w.heap.size w).drew | exact KS _ (Below.refl w.heap.size w)) (first
   | (go_at_call 129; refine Calls.mono (hcl.out _ (by first | exact HR.out.rd.drew | exact HR.out.rd)) ?_; rintro e1 w1 ⟨v1, y1, rfl, H1⟩; have HB1 : Hid (Below w.heap.size w w1) := (by first | exact Below.trans ((Below.refl w.heap.size w).drew) H1.out.2 | exact H1.out.2)))
 obtain ⟨B, hB⟩ : ∃ B, B = w.heap.size := ⟨_, rfl⟩
 have hrB : r < B := by omega
 have HB := Lib.hid hB
 have HR1 := Lib.hid (HR.out.below HB1.out)
 have HP1 : Hid (∃ ys, Own B w1 v1 A ys) := by
   rw [hB]
   exact ⟨y1, H1.out.1⟩
 clear c0 c1 hlt KS H1 hcl KN hB
 have c1 : w1.cell? ⟨r, 1, none⟩ = some (.int .i64 c) := box_cell HR1.out.box 1 _ rfl
 have hlt := box_lt HR1.out.box
 have hfz := box_frozen HR1.out.box 1
 have HMV := Lib.hid (HR1.out.move (c + A) (by omega))
 have HP2 : Hid (∃ ys, Own B (w1.setCell ⟨r, 1, none⟩ (.int .i64 ((c + A : Nat) : Int))) v1 A ys) := by
   obtain ⟨ys, h1⟩ := HP1.out
   refine ⟨ys, h1.keepAt (fun g e hl => HMV.out.2.block g hl (fun e2 => ?_))⟩
   injection e2 with e2
   have := (h1.blk5 g e).1
   omega
 have HG2 := Lib.hid (grown_trans (grown_of HB1.out) HMV.out.2)
 have HBs : Hid (B <= w1.heap.size) := (by have := HB1.out.size; have := HB.out; omega : B <= w1.heap.size)
 clear HP1
 have hcast : ((c + A : Nat) : Int) = (c : Int) + (A : Int) := by omega
 rw [hcast] at HMV HP2 HG2
 have HX := Lib.hid hGG
 clear hGG hcast
 go_wp2_with fail
 go_loopw [9, 51] (fun v z wr => z = .int .i64 0 /\ Hid (Rdr wr r (some ⟨b, o, none⟩) n c zs (c + A) /\ w.grownBy wr (some r))) (fun _ _ _ => 0)
 case atStart => exact ⟨rfl, HMV.out.1, HG2.out⟩
 case round =>
   obtain ⟨rfl, HK⟩ := hrel
   have hlt' : (0 : Int) < (Cn : Int) := by omega
   have hnm : gnm zs (c + A) = none := qgo_out (by have := HK.out.1.len; omega)
   have K1 := Lib.hid (rnm_no r (some ⟨b, o, none⟩) n c zs (c + A) wr HK.out.1 hnm)
   have HG := Lib.hid HK.out.2
   clear HK HMV HP2 HG2 HX HR1
   go_wp2_with fail
   refine K1.out.mono ?_
   rintro e3 w3 ⟨rfl, H3⟩
   go_wp2
   exact ⟨rfl, rfl, grown_trans HG.out H3.out⟩
set_option maxHeartbeats 1000000 in
theorem runsq_no3 (r : Nat) (a : Option Addr) (n c : Nat) (zs : List Int) (p t e : Nat) (w : World) (h : Rdr w r a n c zs p) (he : e <= n) (ha : ¬ p + ahd t <= e) :
   Calls Tryz.prog 115 #[.pointer (some ⟨r, 0, none⟩), .int .u16 t, .int .i64 e] w fun e' w' => e' = .panicked thrown /\ Hid (w.grownBy w' (some r)) := by
 have KN := fun W => Lib.hid (namesin_any t W)
 have KNo := fun W => Lib.hid (need_no W)
 generalize ahd t = A at *
 generalize cnt t = Cn at *
 have hn47 := h.big
 have hpn := h.pn
 have c1 : w.cell? ⟨r, 1, none⟩ = some (.int .i64 p) := box_cell h.box 1 _ rfl
 have hlt := box_lt h.box
 have k1 : (e : Int) - (p : Int) < (A : Int) := by omega
 clear h
 go_enter Tryz.func115, Tryz.ntmps115
 go_wp2_with fail
 refine (KN w).out.mono ?_
 rintro e1 w1 ⟨rfl, hw1⟩
 subst w1
 go_wp2_with fail
 rw [show decide ((A : Int) <= (e : Int) - (p : Int)) = false from (by simp; omega)]
 refine (KNo w).out.mono ?_
 rintro e1 w1 ⟨rfl, hw1⟩
 subst w1
 go_wp2
 exact ⟨rfl, rfl, World.grownBy.refl _ _⟩
theorem runsq_no (r : Nat) (b o n c : Nat) (zs : List Int) (p t e : Nat) (w : World) (h : Rdr w r (some ⟨b, o, none⟩) n c zs p) (h1 : 1 <= n) (hs : sqt t = true) (he : e <= n) (hpe : p <= e) (hx : gpl t zs p e = none) :
   Calls Tryz.prog 115 #[.pointer (some ⟨r, 0, none⟩), .int .u16 t, .int .i64 e] w fun e' w' => e' = .panicked thrown /\ Hid (w.grownBy w' (some r)) := by
 have hbw0 : b < w.heap.size := by
   rcases h.rd.1 with h0 | ⟨b', o', e', hb', _⟩
   · have := h.len; rw [h0] at this; simp at this; omega
   · cases e'; exact hb'
 by_cases ha : p + ahd t <= e
 · by_cases hcp : c = p
   · exact runsq_no2 r b o n c zs p t e w h hbw0 hs he hpe ha hx hcp
   · exact runsq_no1 r b o n c zs p t e w h hbw0 hs he hpe ha hx hcp
 · exact runsq_no3 r _ n c zs p t e w h he ha
end Go.Proofs.YtkjnbgekaifdfaaGreat
namespace Go.Proofs.YtkjnbgekaifdfaaGreat
open Go.ChangeShapes Go.WideShapes Go.ChangeAt Go.RowKit Go.Maps
theorem Own1.x {B : Nat} {w : World} {s : Sl} {nm : List ByteArray} (h : Own1 B w s nm) : Owx1 B w s nm := by
 obtain ⟨ys, ⟨h1, h2⟩, h3⟩ := h
 exact ⟨ys, ⟨h1, fun x hx => Nat.le_trans (h2 x hx) (by omega)⟩, h3⟩
theorem OwnN.x {B : Nat} {w : World} {v : Value} {nss : List (List ByteArray)} (h : OwnN B w v nss) : OwxN B w v nss := by
 obtain ⟨xs, h1, h2⟩ := h
 refine ⟨xs, h1, fun i hi => ?_⟩
 obtain ⟨s, e1, e2⟩ := h2 i hi
 exact ⟨s, e1, e2.x⟩
theorem DOwn.x {B : Nat} {w : World} {x : DA} {d : Dat} (h : DOwn B w x d) : DOwx B w x d := ⟨h.1.x, h.2.1, h.2.2.1.x, h.2.2.2⟩
theorem gdr_readF {t : Nat} {b : List Int} : (∀ d, gdr t b = some d -> readF t b = (d, 0)) /\ (gdr t b = none -> (readF t b).2 ≠ 0) := by
 unfold gdr readF
 constructor
 · intro d hd
   split at hd
   · next h => rw [if_pos h.1, if_pos h.2, hd]
   · cases hd
 · intro h
   split at h
   · next h1 => rw [if_pos h1.1, if_pos h1.2, h]; decide
   · next h1 =>
     split
     · next h2 =>
       rw [if_neg (fun h3 => h1 ⟨h2, h3⟩)]
       decide
     · decide
def RdDP (r b o n c : Nat) (zs : List Int) (w : World) (x : Dat × Nat) (e : Ending) (w' : World) : Prop := ∃ y : DA, e = .returned (.agg #[.slice y.p1.a y.p1.n y.p1.c, .slice y.p2.a y.p2.n y.p2.c, .slice y.p3.a y.p3.n y.p3.c, .slice y.p4.a y.p4.n y.p4.c]) /\ Hid (Rdr w' r (some ⟨b, o, none⟩) n c zs x.2 /\ DOwx w.heap.size w' y x.1 /\ w.grownBy w' (some r))
end Go.Proofs.YtkjnbgekaifdfaaGreat
namespace Go.Proofs.YtkjnbgekaifdfaaGreat
open Go.ChangeShapes Go.WideShapes Go.ChangeAt Go.RowKit Go.Maps
set_option maxHeartbeats 4000000 in
theorem rdata_sq_ok (r b o n c : Nat) (zs : List Int) (p t size : Nat) (w : World) (h : Rdr w r (some ⟨b, o, none⟩) n c zs p) (h1 : 1 <= n) (hz : size <= 65535) (hl : p + size <= n) (hs : sqt t = true) (L : List Int) (hL : gpl t zs p (p + size) = some L) (d : Dat) (hd : readF t L = (d, 0)) (hcp : ¬ c = p) :
   Calls Tryz.prog 92 #[.pointer (some ⟨r, 0, none⟩), .int .u16 t, .int .i64 size] w (RdDP r b o n c zs w (d, p + size)) := by
 have KY := fun W => Lib.hid (need_yes W)
 have KN := fun W => Lib.hid (need_no W)
 have KQ := fun W => Lib.hid (squeezed_any t W)
 have hn47 := h.big
 have hcap := h.cap
 have hlen := h.len
 have c0 : w.cell? ⟨r, 0, none⟩ = some (.slice (some ⟨b, o, none⟩) n c) := box_cell h.box 0 _ rfl
 have c1 : w.cell? ⟨r, 1, none⟩ = some (.int .i64 p) := box_cell h.box 1 _ rfl
 have hlt := box_lt h.box
 have hrw : r < w.heap.size := box_lt h.box
 have HR := Lib.hid h
 rw [hs] at KQ
 have k1 : (size : Int) <= (n : Int) - (p : Int) := by omega
 have hws : IntKind.i64.wrap ((p : Int) + (size : Int)) = (p : Int) + (size : Int) := wrap_in (by omega) (by omega)
 have b1 : (0 : Int) <= (p : Int) := by omega
 have b2 : (p : Int) <= (p : Int) + (size : Int) := by omega
 have b3 : (p : Int) + (size : Int) <= (c : Int) := by omega
 have b4 : ((p : Int) + (size : Int)).toNat - p = size := by omega
 have hb0 : Below w.heap.size w (w.alloc (.cells #[.slice none 0 0, .slice none 0 0, .slice none 0 0, .slice none 0 0] 60)) := newq_below _ _
 have HR0 := Lib.hid (h.below hb0)
 have hD0 : DBlk (w.alloc (.cells #[.slice none 0 0, .slice none 0 0, .slice none 0 0, .slice none 0 0] 60)) w.heap.size nilDA := by
   show (w.heap.push _)[w.heap.size]? = _
   simp
 have hsz0 : (w.alloc (.cells #[.slice none 0 0, .slice none 0 0, .slice none 0 0, .slice none 0 0] 60)).heap.size = w.heap.size + 1 := Array.size_push _
 have HD0 := Lib.hid hD0
 have HS0 := Lib.hid hsz0
 have HB0 := Lib.hid hb0
 obtain ⟨R, hR⟩ : ∃ R, R = w.heap.size := ⟨_, rfl⟩
 have HRR := Lib.hid hR
 rw [<- hR] at HD0 HS0
 clear h hD0 hsz0 hb0
 go_enter Tryz.func92, Tryz.ntmps92
 go_wp2_with fail
 simp only [<- hR]
 generalize w.alloc (.cells #[.slice none 0 0, .slice none 0 0, .slice none 0 0, .slice none 0 0] 60) = w0 at *
 clear c0 c1 hlt hR
 have c0 : w0.cell? ⟨r, 0, none⟩ = some (.slice (some ⟨b, o, none⟩) n c) := box_cell HR0.out.box 0 _ rfl
 have c1 : w0.cell? ⟨r, 1, none⟩ = some (.int .i64 p) := box_cell HR0.out.box 1 _ rfl
 have hlt := box_lt HR0.out.box
 go_quiet (first
   | (go_at_call 60; exact Calls.quiet_of_same (KY _).out))
 have HB1 := Lib.hid (below_dn w0 nq)
 generalize w0.drewN nq = w1 at *
 clear c0 c1 hlt
 have HR1 := Lib.hid (HR0.out.below HB1.out)
 have c0 : w1.cell? ⟨r, 0, none⟩ = some (.slice (some ⟨b, o, none⟩) n c) := box_cell HR1.out.box 0 _ rfl
 have c1 : w1.cell? ⟨r, 1, none⟩ = some (.int .i64 p) := box_cell HR1.out.box 1 _ rfl
 have hlt := box_lt HR1.out.box
 go_wp2_with fail
 go_quiet (fail)
 have HB2 := Lib.hid (below_dn w1 nq)
 generalize w1.drewN nq = w2 at *
 clear c0 c1 hlt
 have HR2 := Lib.hid (HR1.out.below HB2.out)
 have HD2 : Hid (DBlk w2 R nilDA) := (HB2.out.block R (by have := HB1.out.size; have := HS0.out; omega)).trans ((HB1.out.block R (by have := HS0.out; omega)).trans HD0.out)
 have HG2 : Hid (Below w.heap.size w w2) := HB0.out.trans ((HB1.out.mono (by have := HS0.out; have := HRR.out; omega)).trans (HB2.out.mono (by have := HB1.out.size; have := HS0.out; have := HRR.out; omega)))
 have HS2 : Hid (R < w2.heap.size) := (by have := HB1.out.size; have := HB2.out.size; have := HS0.out; omega : R < w2.heap.size)
 have hRw : r < R := by rw [HRR.out]; exact hrw
 clear HB0 HB1 HB2 HD0 HS0 HR0 HR1
 go_wp2_with fail
 refine (KQ w2).out.mono ?_
 rintro e1 w3 ⟨rfl, hw3⟩
 subst w3
 go_wp2_with fail
 refine (runsq_yes r b o n c zs p t (p + size) L w2 HR2.out hs hl (by omega) hL).mono ?_
 rintro e4 w4 ⟨s4, rfl, H4⟩
 have HR4 : Hid (∃ q, Rdr w4 r (some ⟨b, o, none⟩) n c zs q) := H4.out.2.1
 have HB4 : Hid (BRd w4 s4 L) := H4.out.1
 have HG4 : Hid (w.grownBy w4 (some r)) := grown_trans (grown_of HG2.out) H4.out.2.2
 have HD4 : Hid (DBlk w4 R nilDA) := (H4.out.2.2.block R HS2.out (fun e => by injection e with e; omega)).trans HD2.out
 have HS4 : Hid (R < w4.heap.size) := Nat.lt_of_lt_of_le HS2.out H4.out.2.2.size
 clear H4 HD2 HS2 HG2 HR2
 have K5 : Hid (Calls Tryz.prog 116 #[.int .u16 t, .slice s4.a s4.n s4.c] w4 (RdP (readF t L) w4)) := read5_any t s4.a s4.n s4.c L w4 HB4.out.rd HB4.out.len HB4.out.cap HB4.out.nil
 rw [hd] at K5
 go_wp2_with fail
 refine K5.out.mono ?_
 rintro e5 w5 ⟨x5, rfl, H5⟩
 have hn5 := newq_below w5 (.cells #[.slice x5.p1.a x5.p1.n x5.p1.c, .slice x5.p2.a x5.p2.n x5.p2.c, .slice x5.p3.a x5.p3.n x5.p3.c, .slice x5.p4.a x5.p4.n x5.p4.c] 60)
 obtain ⟨D, hD⟩ : ∃ D, D = w5.heap.size := ⟨_, rfl⟩
 have HB6 : Hid (Below w4.heap.size w4 (w5.alloc (.cells #[.slice x5.p1.a x5.p1.n x5.p1.c, .slice x5.p2.a x5.p2.n x5.p2.c, .slice x5.p3.a x5.p3.n x5.p3.c, .slice x5.p4.a x5.p4.n x5.p4.c] 60))) := H5.out.2.trans (hn5.mono H5.out.2.size)
 have HO6 : Hid (DOwx w4.heap.size (w5.alloc (.cells #[.slice x5.p1.a x5.p1.n x5.p1.c, .slice x5.p2.a x5.p2.n x5.p2.c, .slice x5.p3.a x5.p3.n x5.p3.c, .slice x5.p4.a x5.p4.n x5.p4.c] 60)) x5 d) := (H5.out.1.stays hn5).x
 have HD6 : Hid (DBlk (w5.alloc (.cells #[.slice x5.p1.a x5.p1.n x5.p1.c, .slice x5.p2.a x5.p2.n x5.p2.c, .slice x5.p3.a x5.p3.n x5.p3.c, .slice x5.p4.a x5.p4.n x5.p4.c] 60)) D x5) := by rw [hD]; exact heap_alloc_new _ _
 have hDs : w4.heap.size <= D := by rw [hD]; exact H5.out.2.size
 go_wp2_with fail
 rw [<- hD]
 generalize w5.alloc (.cells #[.slice x5.p1.a x5.p1.n x5.p1.c, .slice x5.p2.a x5.p2.n x5.p2.c, .slice x5.p3.a x5.p3.n x5.p3.c, .slice x5.p4.a x5.p4.n x5.p4.c] 60) = w6 at *
 clear hD hn5 H5 K5
 obtain ⟨q, hq⟩ := HR4.out
 have HR6 := Lib.hid (hq.below HB6.out)
 have HR6b : Hid (DBlk w6 R nilDA) := HD4.out.same (HB6.out.block R HS4.out)
 clear hq HR4
 refine (KY w6).out.mono ?_
 rintro e7 w7 ⟨rfl, hw7⟩
 subst w7
 have c1 : w6.cell? ⟨r, 1, none⟩ = some (.int .i64 q) := box_cell HR6.out.box 1 _ rfl
 have hlt := box_lt HR6.out.box
 have hfz := box_frozen HR6.out.box 1
 have HMV := Lib.hid (HR6.out.move (p + size) hl)
 have hcast : ((p + size : Nat) : Int) = (p : Int) + (size : Int) := by omega
 rw [hcast] at HMV
 clear hcast
 go_upto_region 9 with fail
 generalize w6.setCell ⟨r, 1, none⟩ (.int .i64 ((p : Int) + (size : Int))) = w7 at *
 have hRr : ¬ R = r := by omega
 have hDr : ¬ D = r := by have := HS4.out; omega
 have hDR : ¬ D = R := by have := HS4.out; omega
 have hRD : ¬ R = D := by have := HS4.out; omega
 have HD7 : Hid (DBlk w7 D x5) := HD6.out.same (HMV.out.2.block D HD6.out.lt (fun e => by injection e with e; exact hDr e))
 have HR7 : Hid (DBlk w7 R nilDA) := HR6b.out.same (HMV.out.2.block R HR6b.out.lt (fun e => by injection e with e; exact hRr e))
 have HO7 : Hid (DOwx w4.heap.size w7 x5 d) := HO6.out.keep (fun j hj hj2 => HMV.out.2.block j hj2 (fun e => by injection e with e; have := HS4.out; omega))
 have HG7 : Hid (w.grownBy w7 (some r)) := grown_trans (grown_trans HG4.out (grown_of HB6.out)) HMV.out.2
 have HM7 : Hid (Rdr w7 r (some ⟨b, o, none⟩) n c zs (p + size)) := HMV.out.1
 clear c1 hlt hfz HMV HO6 HD6 HR6 HR6b HB6
 have d0 : w7.cell? ⟨D, 0, none⟩ = some (.slice x5.p1.a x5.p1.n x5.p1.c) := HD7.out.box.1
 have d1 : w7.cell? ⟨D, 1, none⟩ = some (.slice x5.p2.a x5.p2.n x5.p2.c) := HD7.out.box.2.1
 have d2 : w7.cell? ⟨D, 2, none⟩ = some (.slice x5.p3.a x5.p3.n x5.p3.c) := HD7.out.box.2.2.1
 have d3 : w7.cell? ⟨D, 3, none⟩ = some (.slice x5.p4.a x5.p4.n x5.p4.c) := HD7.out.box.2.2.2.1
 have r0 : w7.cell? ⟨R, 0, none⟩ = some (.slice none 0 0) := HR7.out.box.1
 have r1 : w7.cell? ⟨R, 1, none⟩ = some (.slice none 0 0) := HR7.out.box.2.1
 have r2 : w7.cell? ⟨R, 2, none⟩ = some (.slice none 0 0) := HR7.out.box.2.2.1
 have r3 : w7.cell? ⟨R, 3, none⟩ = some (.slice none 0 0) := HR7.out.box.2.2.2.1
 have z0 := HR7.out.fz 0
 have z1 := HR7.out.fz 1
 have z2 := HR7.out.fz 2
 have z3 := HR7.out.fz 3
 have hl5 := HR7.out.lt
 go_wp2_with fail
 have HX : Hid (DBlk ((((w7.setCell ⟨R, 0, none⟩ (.slice x5.p1.a x5.p1.n x5.p1.c)).setCell ⟨R, 1, none⟩ (.slice x5.p2.a x5.p2.n x5.p2.c)).setCell ⟨R, 2, none⟩ (.slice x5.p3.a x5.p3.n x5.p3.c)).setCell ⟨R, 3, none⟩ (.slice x5.p4.a x5.p4.n x5.p4.c)) R x5) := set4_blk HR7.out x5
 have HY : Hid (DOwx w.heap.size ((((w7.setCell ⟨R, 0, none⟩ (.slice x5.p1.a x5.p1.n x5.p1.c)).setCell ⟨R, 1, none⟩ (.slice x5.p2.a x5.p2.n x5.p2.c)).setCell ⟨R, 2, none⟩ (.slice x5.p3.a x5.p3.n x5.p3.c)).setCell ⟨R, 3, none⟩ (.slice x5.p4.a x5.p4.n x5.p4.c)) x5 d) := HO7.out.ret4 HS4.out HG4.out.size
 have hg4 : w7.grownBy ((((w7.setCell ⟨R, 0, none⟩ (.slice x5.p1.a x5.p1.n x5.p1.c)).setCell ⟨R, 1, none⟩ (.slice x5.p2.a x5.p2.n x5.p2.c)).setCell ⟨R, 2, none⟩ (.slice x5.p3.a x5.p3.n x5.p3.c)).setCell ⟨R, 3, none⟩ (.slice x5.p4.a x5.p4.n x5.p4.c)) (some R) := set4_grown w7 R x5
 have hbw : b < w.heap.size := by
   rcases HR.out.rd.1 with h0 | ⟨b', o', e', hb', _⟩
   · have := HR.out.len; rw [h0] at this; simp at this; omega
   · cases e'; exact hb'
 have HZ : Hid (w.grownBy ((((w7.setCell ⟨R, 0, none⟩ (.slice x5.p1.a x5.p1.n x5.p1.c)).setCell ⟨R, 1, none⟩ (.slice x5.p2.a x5.p2.n x5.p2.c)).setCell ⟨R, 2, none⟩ (.slice x5.p3.a x5.p3.n x5.p3.c)).setCell ⟨R, 3, none⟩ (.slice x5.p4.a x5.p4.n x5.p4.c)) (some r)) := grown_apx HG7.out hg4 (fun j e => by injection e with e; rw [<- e, HRR.out]; exact Nat.le_refl _)
 have HV : Hid (Rdr ((((w7.setCell ⟨R, 0, none⟩ (.slice x5.p1.a x5.p1.n x5.p1.c)).setCell ⟨R, 1, none⟩ (.slice x5.p2.a x5.p2.n x5.p2.c)).setCell ⟨R, 2, none⟩ (.slice x5.p3.a x5.p3.n x5.p3.c)).setCell ⟨R, 3, none⟩ (.slice x5.p4.a x5.p4.n x5.p4.c)) r (some ⟨b, o, none⟩) n c zs (p + size)) := HM7.out.app hg4 (B := R) (by rw [HRR.out]; exact hbw) hRw (box_lt HM7.out.box) (Nat.lt_of_lt_of_le hbw HG7.out.size) (fun j e => by injection e with e; omega)
 clear hg4 d0 d1 d2 d3 r0 r1 r2 r3 z0 z1 z2 z3 hl5
 generalize ((((w7.setCell ⟨R, 0, none⟩ (.slice x5.p1.a x5.p1.n x5.p1.c)).setCell ⟨R, 1, none⟩ (.slice x5.p2.a x5.p2.n x5.p2.c)).setCell ⟨R, 2, none⟩ (.slice x5.p3.a x5.p3.n x5.p3.c)).setCell ⟨R, 3, none⟩ (.slice x5.p4.a x5.p4.n x5.p4.c)) = W9 at *
 have k0 := HX.out.box.1
 have k1 := HX.out.box.2.1
 have k2 := HX.out.box.2.2.1
 have k3 := HX.out.box.2.2.2.1
 try simp only at k0 k1 k2 k3
 exact bodyPost_ret (v := .agg #[.slice x5.p1.a x5.p1.n x5.p1.c, .slice x5.p2.a x5.p2.n x5.p2.c, .slice x5.p3.a x5.p3.n x5.p3.c, .slice x5.p4.a x5.p4.n x5.p4.c]) (by simp [results, Tryz.results92, go_sem, k0, k1, k2, k3]) rfl ⟨x5, rfl, HV.out, HY.out, HZ.out⟩
end Go.Proofs.YtkjnbgekaifdfaaGreat
namespace Go.Proofs.YtkjnbgekaifdfaaGreat
open Go.ChangeShapes Go.WideShapes Go.ChangeAt Go.RowKit Go.Maps
set_option maxHeartbeats 4000000 in
theorem rdata_sq_bad (r b o n c : Nat) (zs : List Int) (p t size : Nat) (w : World) (h : Rdr w r (some ⟨b, o, none⟩) n c zs p) (h1 : 1 <= n) (hz : size <= 65535) (hl : p + size <= n) (hs : sqt t = true) (L : List Int) (hL : gpl t zs p (p + size) = some L) (hd : (readF t L).2 ≠ 0) (hcp : ¬ c = p) :
   Calls Tryz.prog 92 #[.pointer (some ⟨r, 0, none⟩), .int .u16 t, .int .i64 size] w fun e w' => e = .panicked thrown /\ Hid (w.grownBy w' (some r)) := by
 have KY := fun W => Lib.hid (need_yes W)
 have KN := fun W => Lib.hid (need_no W)
 have KQ := fun W => Lib.hid (squeezed_any t W)
 have hn47 := h.big
 have hcap := h.cap
 have hlen := h.len
 have c0 : w.cell? ⟨r, 0, none⟩ = some (.slice (some ⟨b, o, none⟩) n c) := box_cell h.box 0 _ rfl
 have c1 : w.cell? ⟨r, 1, none⟩ = some (.int .i64 p) := box_cell h.box 1 _ rfl
 have hlt := box_lt h.box
 have hrw : r < w.heap.size := box_lt h.box
 have HR := Lib.hid h
 rw [hs] at KQ
 have k1 : (size : Int) <= (n : Int) - (p : Int) := by omega
 have hws : IntKind.i64.wrap ((p : Int) + (size : Int)) = (p : Int) + (size : Int) := wrap_in (by omega) (by omega)
 have b1 : (0 : Int) <= (p : Int) := by omega
 have b2 : (p : Int) <= (p : Int) + (size : Int) := by omega
 have b3 : (p : Int) + (size : Int) <= (c : Int) := by omega
 have b4 : ((p : Int) + (size : Int)).toNat - p = size := by omega
 have hb0 : Below w.heap.size w (w.alloc (.cells #[.slice none 0 0, .slice none 0 0, .slice none 0 0, .slice none 0 0] 60)) := newq_below _ _
 have HR0 := Lib.hid (h.below hb0)
 have hD0 : DBlk (w.alloc (.cells #[.slice none 0 0, .slice none 0 0, .slice none 0 0, .slice none 0 0] 60)) w.heap.size nilDA := by
   show (w.heap.push _)[w.heap.size]? = _
   simp
 have hsz0 : (w.alloc (.cells #[.slice none 0 0, .slice none 0 0, .slice none 0 0, .slice none 0 0] 60)).heap.size = w.heap.size + 1 := Array.size_push _
 have HD0 := Lib.hid hD0
 have HS0 := Lib.hid hsz0
 have HB0 := Lib.hid hb0
 obtain ⟨R, hR⟩ : ∃ R, R = w.heap.size := ⟨_, rfl⟩
 have HRR := Lib.hid hR
 rw [<- hR] at HD0 HS0
 clear h hD0 hsz0 hb0
 go_enter Tryz.func92, Tryz.ntmps92
 go_wp2_with fail
 simp only [<- hR]
 generalize w.alloc (.cells #[.slice none 0 0, .slice none 0 0, .slice none 0 0, .slice none 0 0] 60) = w0 at *
 clear c0 c1 hlt hR
 have c0 : w0.cell? ⟨r, 0, none⟩ = some (.slice (some ⟨b, o, none⟩) n c) := box_cell HR0.out.box 0 _ rfl
 have c1 : w0.cell? ⟨r, 1, none⟩ = some (.int .i64 p) := box_cell HR0.out.box 1 _ rfl
 have hlt := box_lt HR0.out.box
 go_quiet (first
   | (go_at_call 60; exact Calls.quiet_of_same (KY _).out))
 have HB1 := Lib.hid (below_dn w0 nq)
 generalize w0.drewN nq = w1 at *
 clear c0 c1 hlt
 have HR1 := Lib.hid (HR0.out.below HB1.out)
 have c0 : w1.cell? ⟨r, 0, none⟩ = some (.slice (some ⟨b, o, none⟩) n c) := box_cell HR1.out.box 0 _ rfl
 have c1 : w1.cell? ⟨r, 1, none⟩ = some (.int .i64 p) := box_cell HR1.out.box 1 _ rfl
 have hlt := box_lt HR1.out.box
 go_wp2_with fail
 go_quiet (fail)
 have HB2 := Lib.hid (below_dn w1 nq)
 generalize w1.drewN nq = w2 at *
 clear c0 c1 hlt
 have HR2 := Lib.hid (HR1.out.below HB2.out)
 have HD2 : Hid (DBlk w2 R nilDA) := (HB2.out.block R (by have := HB1.out.size; have := HS0.out; omega)).trans ((HB1.out.block R (by have := HS0.out; omega)).trans HD0.out)
 have HG2 : Hid (Below w.heap.size w w2) := HB0.out.trans ((HB1.out.mono (by have := HS0.out; have := HRR.out; omega)).trans (HB2.out.mono (by have := HB1.out.size; have := HS0.out; have := HRR.out; omega)))
 have HS2 : Hid (R < w2.heap.size) := (by have := HB1.out.size; have := HB2.out.size; have := HS0.out; omega : R < w2.heap.size)
 have hRw : r < R := by rw [HRR.out]; exact hrw
 clear HB0 HB1 HB2 HD0 HS0 HR0 HR1
 go_wp2_with fail
 refine (KQ w2).out.mono ?_
 rintro e1 w3 ⟨rfl, hw3⟩
 subst w3
 go_wp2_with fail
 refine (runsq_yes r b o n c zs p t (p + size) L w2 HR2.out hs hl (by omega) hL).mono ?_
 rintro e4 w4 ⟨s4, rfl, H4⟩
 have HR4 : Hid (∃ q, Rdr w4 r (some ⟨b, o, none⟩) n c zs q) := H4.out.2.1
 have HB4 : Hid (BRd w4 s4 L) := H4.out.1
 have HG4 : Hid (w.grownBy w4 (some r)) := grown_trans (grown_of HG2.out) H4.out.2.2
 have HD4 : Hid (DBlk w4 R nilDA) := (H4.out.2.2.block R HS2.out (fun e => by injection e with e; omega)).trans HD2.out
 have HS4 : Hid (R < w4.heap.size) := Nat.lt_of_lt_of_le HS2.out H4.out.2.2.size
 clear H4 HD2 HS2 HG2 HR2
 have K5 : Hid (Calls Tryz.prog 116 #[.int .u16 t, .slice s4.a s4.n s4.c] w4 (RdP (readF t L) w4)) := read5_any t s4.a s4.n s4.c L w4 HB4.out.rd HB4.out.len HB4.out.cap HB4.out.nil
 generalize readF t L = rr at *
 go_wp2_with fail
 refine K5.out.mono ?_
 rintro e5 w5 ⟨x5, rfl, H5⟩
 have hn5 := newq_below w5 (.cells #[.slice x5.p1.a x5.p1.n x5.p1.c, .slice x5.p2.a x5.p2.n x5.p2.c, .slice x5.p3.a x5.p3.n x5.p3.c, .slice x5.p4.a x5.p4.n x5.p4.c] 60)
 obtain ⟨D, hD⟩ : ∃ D, D = w5.heap.size := ⟨_, rfl⟩
 have HB6 : Hid (Below w4.heap.size w4 (w5.alloc (.cells #[.slice x5.p1.a x5.p1.n x5.p1.c, .slice x5.p2.a x5.p2.n x5.p2.c, .slice x5.p3.a x5.p3.n x5.p3.c, .slice x5.p4.a x5.p4.n x5.p4.c] 60))) := H5.out.2.trans (hn5.mono H5.out.2.size)
 have HO6 : Hid (DOwx w4.heap.size (w5.alloc (.cells #[.slice x5.p1.a x5.p1.n x5.p1.c, .slice x5.p2.a x5.p2.n x5.p2.c, .slice x5.p3.a x5.p3.n x5.p3.c, .slice x5.p4.a x5.p4.n x5.p4.c] 60)) x5 rr.1) := (H5.out.1.stays hn5).x
 have HD6 : Hid (DBlk (w5.alloc (.cells #[.slice x5.p1.a x5.p1.n x5.p1.c, .slice x5.p2.a x5.p2.n x5.p2.c, .slice x5.p3.a x5.p3.n x5.p3.c, .slice x5.p4.a x5.p4.n x5.p4.c] 60)) D x5) := by rw [hD]; exact heap_alloc_new _ _
 have hDs : w4.heap.size <= D := by rw [hD]; exact H5.out.2.size
 have hne : decide (rr.2 = 0) = false := by simp [hd]
 have hne2 : (rr.2 == 0) = false := by simp [hd]
 go_wp2_with fail
 generalize w5.alloc (.cells #[.slice x5.p1.a x5.p1.n x5.p1.c, .slice x5.p2.a x5.p2.n x5.p2.c, .slice x5.p3.a x5.p3.n x5.p3.c, .slice x5.p4.a x5.p4.n x5.p4.c] 60) = w6 at *
 refine (KN w6).out.mono ?_
 rintro e7 w7 ⟨rfl, hw7⟩
 subst w7
 go_wp2_with fail
 exact ⟨rfl, rfl, grown_trans HG4.out (grown_of HB6.out)⟩
end Go.Proofs.YtkjnbgekaifdfaaGreat
namespace Go.Proofs.YtkjnbgekaifdfaaGreat
open Go.ChangeShapes Go.WideShapes Go.ChangeAt Go.RowKit Go.Maps
set_option maxHeartbeats 4000000 in
theorem rdata_sq_no (r b o n c : Nat) (zs : List Int) (p t size : Nat) (w : World) (h : Rdr w r (some ⟨b, o, none⟩) n c zs p) (h1 : 1 <= n) (hz : size <= 65535) (hl : p + size <= n) (hs : sqt t = true) (hL : gpl t zs p (p + size) = none) (hcp : ¬ c = p) :
   Calls Tryz.prog 92 #[.pointer (some ⟨r, 0, none⟩), .int .u16 t, .int .i64 size] w fun e w' => e = .panicked thrown /\ Hid (w.grownBy w' (some r)) := by
 have KY := fun W => Lib.hid (need_yes W)
 have KN := fun W => Lib.hid (need_no W)
 have KQ := fun W => Lib.hid (squeezed_any t W)
 have hn47 := h.big
 have hcap := h.cap
 have hlen := h.len
 have c0 : w.cell? ⟨r, 0, none⟩ = some (.slice (some ⟨b, o, none⟩) n c) := box_cell h.box 0 _ rfl
 have c1 : w.cell? ⟨r, 1, none⟩ = some (.int .i64 p) := box_cell h.box 1 _ rfl
 have hlt := box_lt h.box
 have hrw : r < w.heap.size := box_lt h.box
 have HR := Lib.hid h
 rw [hs] at KQ
 have k1 : (size : Int) <= (n : Int) - (p : Int) := by omega
 have hws : IntKind.i64.wrap ((p : Int) + (size : Int)) = (p : Int) + (size : Int) := wrap_in (by omega) (by omega)
 have b1 : (0 : Int) <= (p : Int) := by omega
 have b2 : (p : Int) <= (p : Int) + (size : Int) := by omega
 have b3 : (p : Int) + (size : Int) <= (c : Int) := by omega
 have b4 : ((p : Int) + (size : Int)).toNat - p = size := by omega
 have hb0 : Below w.heap.size w (w.alloc (.cells #[.slice none 0 0, .slice none 0 0, .slice none 0 0, .slice none 0 0] 60)) := newq_below _ _
 have HR0 := Lib.hid (h.below hb0)
 have hD0 : DBlk (w.alloc (.cells #[.slice none 0 0, .slice none 0 0, .slice none 0 0, .slice none 0 0] 60)) w.heap.size nilDA := by
   show (w.heap.push _)[w.heap.size]? = _
   simp
 have hsz0 : (w.alloc (.cells #[.slice none 0 0, .slice none 0 0, .slice none 0 0, .slice none 0 0] 60)).heap.size = w.heap.size + 1 := Array.size_push _
 have HD0 := Lib.hid hD0
 have HS0 := Lib.hid hsz0
 have HB0 := Lib.hid hb0
 obtain ⟨R, hR⟩ : ∃ R, R = w.heap.size := ⟨_, rfl⟩
 have HRR := Lib.hid hR
 rw [<- hR] at HD0 HS0
 clear h hD0 hsz0 hb0
 go_enter Tryz.func92, Tryz.ntmps92
 go_wp2_with fail
 simp only [<- hR]
 generalize w.alloc (.cells #[.slice none 0 0, .slice none 0 0, .slice none 0 0, .slice none 0 0] 60) = w0 at *
 clear c0 c1 hlt hR
 have c0 : w0.cell? ⟨r, 0, none⟩ = some (.slice (some ⟨b, o, none⟩) n c) := box_cell HR0.out.box 0 _ rfl
 have c1 : w0.cell? ⟨r, 1, none⟩ = some (.int .i64 p) := box_cell HR0.out.box 1 _ rfl
 have hlt := box_lt HR0.out.box
 go_quiet (first
   | (go_at_call 60; exact Calls.quiet_of_same (KY _).out))
 have HB1 := Lib.hid (below_dn w0 nq)
 generalize w0.drewN nq = w1 at *
 clear c0 c1 hlt
 have HR1 := Lib.hid (HR0.out.below HB1.out)
 have c0 : w1.cell? ⟨r, 0, none⟩ = some (.slice (some ⟨b, o, none⟩) n c) := box_cell HR1.out.box 0 _ rfl
 have c1 : w1.cell? ⟨r, 1, none⟩ = some (.int .i64 p) := box_cell HR1.out.box 1 _ rfl
 have hlt := box_lt HR1.out.box
 go_wp2_with fail
 go_quiet (fail)
 have HB2 := Lib.hid (below_dn w1 nq)
 generalize w1.drewN nq = w2 at *
 clear c0 c1 hlt
 have HR2 := Lib.hid (HR1.out.below HB2.out)
 have HD2 : Hid (DBlk w2 R nilDA) := (HB2.out.block R (by have := HB1.out.size; have := HS0.out; omega)).trans ((HB1.out.block R (by have := HS0.out; omega)).trans HD0.out)
 have HG2 : Hid (Below w.heap.size w w2) := HB0.out.trans ((HB1.out.mono (by have := HS0.out; have := HRR.out; omega)).trans (HB2.out.mono (by have := HB1.out.size; have := HS0.out; have := HRR.out; omega)))
 have HS2 : Hid (R < w2.heap.size) := (by have := HB1.out.size; have := HB2.out.size; have := HS0.out; omega : R < w2.heap.size)
 have hRw : r < R := by rw [HRR.out]; exact hrw
 clear HB0 HB1 HB2 HD0 HS0 HR0 HR1
 go_wp2_with fail
 refine (KQ w2).out.mono ?_
 rintro e1 w3 ⟨rfl, hw3⟩
 subst w3
 go_wp2_with fail
 refine (runsq_no r b o n c zs p t (p + size) w2 HR2.out h1 hs hl (by omega) hL).mono ?_
 rintro e4 w4 ⟨rfl, H4⟩
 go_wp2_with fail
 exact ⟨rfl, rfl, grown_trans (grown_of HG2.out) H4.out⟩
end Go.Proofs.YtkjnbgekaifdfaaGreat
namespace Go.Proofs.YtkjnbgekaifdfaaGreat
open Go.ChangeShapes Go.WideShapes Go.ChangeAt Go.RowKit Go.Maps
set_option maxHeartbeats 4000000 in
theorem rdata_sq_no2 (r b o n c : Nat) (zs : List Int) (p t size : Nat) (w : World) (h : Rdr w r (some ⟨b, o, none⟩) n c zs p) (h1 : 1 <= n) (hz : size <= 65535) (hl : p + size <= n) (hs : sqt t = true) (hL : gpl t zs p (p + size) = none) (hcp : c = p) :
   Calls Tryz.prog 92 #[.pointer (some ⟨r, 0, none⟩), .int .u16 t, .int .i64 size] w fun e w' => e = .panicked thrown /\ Hid (w.grownBy w' (some r)) := by
 have KY := fun W => Lib.hid (need_yes W)
 have KN := fun W => Lib.hid (need_no W)
 have KQ := fun W => Lib.hid (squeezed_any t W)
 have hn47 := h.big
 have hcap := h.cap
 have hlen := h.len
 have c0 : w.cell? ⟨r, 0, none⟩ = some (.slice (some ⟨b, o, none⟩) n c) := box_cell h.box 0 _ rfl
 have c1 : w.cell? ⟨r, 1, none⟩ = some (.int .i64 p) := box_cell h.box 1 _ rfl
 have hlt := box_lt h.box
 have hrw : r < w.heap.size := box_lt h.box
 have HR := Lib.hid h
 rw [hs] at KQ
 have k1 : (size : Int) <= (n : Int) - (p : Int) := by omega
 have hws : IntKind.i64.wrap ((p : Int) + (size : Int)) = (p : Int) + (size : Int) := wrap_in (by omega) (by omega)
 have b1 : (0 : Int) <= (p : Int) := by omega
 have b2 : (p : Int) <= (p : Int) + (size : Int) := by omega
 have b3 : (p : Int) + (size : Int) <= (c : Int) := by omega
 have b4 : ((p : Int) + (size : Int)).toNat - p = size := by omega
 have hb0 : Below w.heap.size w (w.alloc (.cells #[.slice none 0 0, .slice none 0 0, .slice none 0 0, .slice none 0 0] 60)) := newq_below _ _
 have HR0 := Lib.hid (h.below hb0)
 have hD0 : DBlk (w.alloc (.cells #[.slice none 0 0, .slice none 0 0, .slice none 0 0, .slice none 0 0] 60)) w.heap.size nilDA := by
   show (w.heap.push _)[w.heap.size]? = _
   simp
 have hsz0 : (w.alloc (.cells #[.slice none 0 0, .slice none 0 0, .slice none 0 0, .slice none 0 0] 60)).heap.size = w.heap.size + 1 := Array.size_push _
 have HD0 := Lib.hid hD0
 have HS0 := Lib.hid hsz0
 have HB0 := Lib.hid hb0
 obtain ⟨R, hR⟩ : ∃ R, R = w.heap.size := ⟨_, rfl⟩
 have HRR := Lib.hid hR
 rw [<- hR] at HD0 HS0
 clear h hD0 hsz0 hb0
 go_enter Tryz.func92, Tryz.ntmps92
 go_wp2_with fail
 simp only [<- hR]
 generalize w.alloc (.cells #[.slice none 0 0, .slice none 0 0, .slice none 0 0, .slice none 0 0] 60) = w0 at *
 clear c0 c1 hlt hR
 have c0 : w0.cell? ⟨r, 0, none⟩ = some (.slice (some ⟨b, o, none⟩) n c) := box_cell HR0.out.box 0 _ rfl
 have c1 : w0.cell? ⟨r, 1, none⟩ = some (.int .i64 p) := box_cell HR0.out.box 1 _ rfl
 have hlt := box_lt HR0.out.box
 go_quiet (first
   | (go_at_call 60; exact Calls.quiet_of_same (KY _).out))
 have HB1 := Lib.hid (below_dn w0 nq)
 generalize w0.drewN nq = w1 at *
 clear c0 c1 hlt
 have HR1 := Lib.hid (HR0.out.below HB1.out)
 have c0 : w1.cell? ⟨r, 0, none⟩ = some (.slice (some ⟨b, o, none⟩) n c) := box_cell HR1.out.box 0 _ rfl
 have c1 : w1.cell? ⟨r, 1, none⟩ = some (.int .i64 p) := box_cell HR1.out.box 1 _ rfl
 have hlt := box_lt HR1.out.box
 go_wp2_with fail
 go_quiet (fail)
 have HB2 := Lib.hid (below_dn w1 nq)
 generalize w1.drewN nq = w2 at *
 clear c0 c1 hlt
 have HR2 := Lib.hid (HR1.out.below HB2.out)
 have HD2 : Hid (DBlk w2 R nilDA) := (HB2.out.block R (by have := HB1.out.size; have := HS0.out; omega)).trans ((HB1.out.block R (by have := HS0.out; omega)).trans HD0.out)
 have HG2 : Hid (Below w.heap.size w w2) := HB0.out.trans ((HB1.out.mono (by have := HS0.out; have := HRR.out; omega)).trans (HB2.out.mono (by have := HB1.out.size; have := HS0.out; have := HRR.out; omega)))
 have HS2 : Hid (R < w2.heap.size) := (by have := HB1.out.size; have := HB2.out.size; have := HS0.out; omega : R < w2.heap.size)
 have hRw : r < R := by rw [HRR.out]; exact hrw
 clear HB0 HB1 HB2 HD0 HS0 HR0 HR1
 go_wp2_with fail
 refine (KQ w2).out.mono ?_
 rintro e1 w3 ⟨rfl, hw3⟩
 subst w3
 go_wp2_with fail
 refine (runsq_no r b o n c zs p t (p + size) w2 HR2.out h1 hs hl (by omega) hL).mono ?_
 rintro e4 w4 ⟨rfl, H4⟩
 go_wp2_with fail
 exact ⟨rfl, rfl, grown_trans (grown_of HG2.out) H4.out⟩
end Go.Proofs.YtkjnbgekaifdfaaGreat
namespace Go.Proofs.YtkjnbgekaifdfaaGreat
open Go.ChangeShapes Go.WideShapes Go.ChangeAt Go.RowKit Go.Maps
set_option maxHeartbeats 4000000 in
theorem rdata_pl_ok (r b o n c : Nat) (zs : List Int) (p t size : Nat) (w : World) (h : Rdr w r (some ⟨b, o, none⟩) n c zs p) (h1 : 1 <= n) (hz : size <= 65535) (hl : p + size <= n) (hs : sqt t = false) (d : Dat) (hd : readF t ((zs.drop p).take size) = (d, 0)) (hcp : ¬ c = p) :
   Calls Tryz.prog 92 #[.pointer (some ⟨r, 0, none⟩), .int .u16 t, .int .i64 size] w (RdDP r b o n c zs w (d, p + size)) := by
 have KY := fun W => Lib.hid (need_yes W)
 have KN := fun W => Lib.hid (need_no W)
 have KQ := fun W => Lib.hid (squeezed_any t W)
 have hn47 := h.big
 have hcap := h.cap
 have hlen := h.len
 have c0 : w.cell? ⟨r, 0, none⟩ = some (.slice (some ⟨b, o, none⟩) n c) := box_cell h.box 0 _ rfl
 have c1 : w.cell? ⟨r, 1, none⟩ = some (.int .i64 p) := box_cell h.box 1 _ rfl
 have hlt := box_lt h.box
 have hrw : r < w.heap.size := box_lt h.box
 have HR := Lib.hid h
 rw [hs] at KQ
 have k1 : (size : Int) <= (n : Int) - (p : Int) := by omega
 have hws : IntKind.i64.wrap ((p : Int) + (size : Int)) = (p : Int) + (size : Int) := wrap_in (by omega) (by omega)
 have b1 : (0 : Int) <= (p : Int) := by omega
 have b2 : (p : Int) <= (p : Int) + (size : Int) := by omega
 have b3 : (p : Int) + (size : Int) <= (c : Int) := by omega
 have b4 : ((p : Int) + (size : Int)).toNat - p = size := by omega
 have hb0 : Below w.heap.size w (w.alloc (.cells #[.slice none 0 0, .slice none 0 0, .slice none 0 0, .slice none 0 0] 60)) := newq_below _ _
 have HR0 := Lib.hid (h.below hb0)
 have hD0 : DBlk (w.alloc (.cells #[.slice none 0 0, .slice none 0 0, .slice none 0 0, .slice none 0 0] 60)) w.heap.size nilDA := by
   show (w.heap.push _)[w.heap.size]? = _
   simp
 have hsz0 : (w.alloc (.cells #[.slice none 0 0, .slice none 0 0, .slice none 0 0, .slice none 0 0] 60)).heap.size = w.heap.size + 1 := Array.size_push _
 have HD0 := Lib.hid hD0
 have HS0 := Lib.hid hsz0
 have HB0 := Lib.hid hb0
 obtain ⟨R, hR⟩ : ∃ R, R = w.heap.size := ⟨_, rfl⟩
 have HRR := Lib.hid hR
 rw [<- hR] at HD0 HS0
 clear h hD0 hsz0 hb0
 go_enter Tryz.func92, Tryz.ntmps92
 go_wp2_with fail
 simp only [<- hR]
 generalize w.alloc (.cells #[.slice none 0 0, .slice none 0 0, .slice none 0 0, .slice none 0 0] 60) = w0 at *
 clear c0 c1 hlt hR
 have c0 : w0.cell? ⟨r, 0, none⟩ = some (.slice (some ⟨b, o, none⟩) n c) := box_cell HR0.out.box 0 _ rfl
 have c1 : w0.cell? ⟨r, 1, none⟩ = some (.int .i64 p) := box_cell HR0.out.box 1 _ rfl
 have hlt := box_lt HR0.out.box
 go_quiet (first
   | (go_at_call 60; exact Calls.quiet_of_same (KY _).out))
 have HB1 := Lib.hid (below_dn w0 nq)
 generalize w0.drewN nq = w1 at *
 clear c0 c1 hlt
 have HR1 := Lib.hid (HR0.out.below HB1.out)
 have c0 : w1.cell? ⟨r, 0, none⟩ = some (.slice (some ⟨b, o, none⟩) n c) := box_cell HR1.out.box 0 _ rfl
 have c1 : w1.cell? ⟨r, 1, none⟩ = some (.int .i64 p) := box_cell HR1.out.box 1 _ rfl
 have hlt := box_lt HR1.out.box
 go_wp2_with fail
 go_quiet (fail)
 have HB2 := Lib.hid (below_dn w1 nq)
 generalize w1.drewN nq = w2 at *
 clear c0 c1 hlt
 have HR2 := Lib.hid (HR1.out.below HB2.out)
 have HD2 : Hid (DBlk w2 R nilDA) := (HB2.out.block R (by have := HB1.out.size; have := HS0.out; omega)).trans ((HB1.out.block R (by have := HS0.out; omega)).trans HD0.out)
 have HG2 : Hid (Below w.heap.size w w2) := HB0.out.trans ((HB1.out.mono (by have := HS0.out; have := HRR.out; omega)).trans (HB2.out.mono (by have := HB1.out.size; have := HS0.out; have := HRR.out; omega)))
 have HS2 : Hid (R < w2.heap.size) := (by have := HB1.out.size; have := HB2.out.size; have := HS0.out; omega : R < w2.heap.size)
 have hRw : r < R := by rw [HRR.out]; exact hrw
 clear HB0 HB1 HB2 HD0 HS0 HR0 HR1
 go_wp2_with fail
 refine (KQ w2).out.mono ?_
 rintro e1 w3 ⟨rfl, hw3⟩
 subst w3
 go_wp2_with fail
 have HG4 : Hid (w.grownBy w2 (some r)) := grown_of HG2.out
 have HR4 : Hid (∃ q, Rdr w2 r (some ⟨b, o, none⟩) n c zs q) := ⟨p, HR2.out⟩
 have HD4 := HD2
 have HS4 := HS2
 have K5 : Hid (Calls Tryz.prog 116 #[.int .u16 t, .slice (some ⟨b, o + p, none⟩) size (c - p)] w2 (RdP (readF t ((zs.drop p).take size)) w2)) := by
   refine read5_any t _ size (c - p) ((zs.drop p).take size) w2 (HR2.out.rd.cut p size (by omega) (fun _ b' o' e' => by cases e'; first | rfl | omega)) (by simp; omega) ⟨by omega, by omega⟩ (fun e => by cases e)
 clear HD2 HS2 HG2 HR2
 generalize w2 = w4 at *
 rw [hd] at K5
 go_wp2_with fail
 refine K5.out.mono ?_
 rintro e5 w5 ⟨x5, rfl, H5⟩
 have hn5 := newq_below w5 (.cells #[.slice x5.p1.a x5.p1.n x5.p1.c, .slice x5.p2.a x5.p2.n x5.p2.c, .slice x5.p3.a x5.p3.n x5.p3.c, .slice x5.p4.a x5.p4.n x5.p4.c] 60)
 obtain ⟨D, hD⟩ : ∃ D, D = w5.heap.size := ⟨_, rfl⟩
 have HB6 : Hid (Below w4.heap.size w4 (w5.alloc (.cells #[.slice x5.p1.a x5.p1.n x5.p1.c, .slice x5.p2.a x5.p2.n x5.p2.c, .slice x5.p3.a x5.p3.n x5.p3.c, .slice x5.p4.a x5.p4.n x5.p4.c] 60))) := H5.out.2.trans (hn5.mono H5.out.2.size)
 have HO6 : Hid (DOwx w4.heap.size (w5.alloc (.cells #[.slice x5.p1.a x5.p1.n x5.p1.c, .slice x5.p2.a x5.p2.n x5.p2.c, .slice x5.p3.a x5.p3.n x5.p3.c, .slice x5.p4.a x5.p4.n x5.p4.c] 60)) x5 d) := (H5.out.1.stays hn5).x
 have HD6 : Hid (DBlk (w5.alloc (.cells #[.slice x5.p1.a x5.p1.n x5.p1.c, .slice x5.p2.a x5.p2.n x5.p2.c, .slice x5.p3.a x5.p3.n x5.p3.c, .slice x5.p4.a x5.p4.n x5.p4.c] 60)) D x5) := by rw [hD]; exact heap_alloc_new _ _
 have hDs : w4.heap.size <= D := by rw [hD]; exact H5.out.2.size
 go_wp2_with fail
 rw [<- hD]
 generalize w5.alloc (.cells #[.slice x5.p1.a x5.p1.n x5.p1.c, .slice x5.p2.a x5.p2.n x5.p2.c, .slice x5.p3.a x5.p3.n x5.p3.c, .slice x5.p4.a x5.p4.n x5.p4.c] 60) = w6 at *
 clear hD hn5 H5 K5
 obtain ⟨q, hq⟩ := HR4.out
 have HR6 := Lib.hid (hq.below HB6.out)
 have HR6b : Hid (DBlk w6 R nilDA) := HD4.out.same (HB6.out.block R HS4.out)
 clear hq HR4
 refine (KY w6).out.mono ?_
 rintro e7 w7 ⟨rfl, hw7⟩
 subst w7
 have c1 : w6.cell? ⟨r, 1, none⟩ = some (.int .i64 q) := box_cell HR6.out.box 1 _ rfl
 have hlt := box_lt HR6.out.box
 have hfz := box_frozen HR6.out.box 1
 have HMV := Lib.hid (HR6.out.move (p + size) hl)
 have hcast : ((p + size : Nat) : Int) = (p : Int) + (size : Int) := by omega
 rw [hcast] at HMV
 clear hcast
 go_upto_region 9 with fail
 generalize w6.setCell ⟨r, 1, none⟩ (.int .i64 ((p : Int) + (size : Int))) = w7 at *
 have hRr : ¬ R = r := by omega
 have hDr : ¬ D = r := by have := HS4.out; omega
 have hDR : ¬ D = R := by have := HS4.out; omega
 have hRD : ¬ R = D := by have := HS4.out; omega
 have HD7 : Hid (DBlk w7 D x5) := HD6.out.same (HMV.out.2.block D HD6.out.lt (fun e => by injection e with e; exact hDr e))
 have HR7 : Hid (DBlk w7 R nilDA) := HR6b.out.same (HMV.out.2.block R HR6b.out.lt (fun e => by injection e with e; exact hRr e))
 have HO7 : Hid (DOwx w4.heap.size w7 x5 d) := HO6.out.keep (fun j hj hj2 => HMV.out.2.block j hj2 (fun e => by injection e with e; have := HS4.out; omega))
 have HG7 : Hid (w.grownBy w7 (some r)) := grown_trans (grown_trans HG4.out (grown_of HB6.out)) HMV.out.2
 have HM7 : Hid (Rdr w7 r (some ⟨b, o, none⟩) n c zs (p + size)) := HMV.out.1
 clear c1 hlt hfz HMV HO6 HD6 HR6 HR6b HB6
 have d0 : w7.cell? ⟨D, 0, none⟩ = some (.slice x5.p1.a x5.p1.n x5.p1.c) := HD7.out.box.1
 have d1 : w7.cell? ⟨D, 1, none⟩ = some (.slice x5.p2.a x5.p2.n x5.p2.c) := HD7.out.box.2.1
 have d2 : w7.cell? ⟨D, 2, none⟩ = some (.slice x5.p3.a x5.p3.n x5.p3.c) := HD7.out.box.2.2.1
 have d3 : w7.cell? ⟨D, 3, none⟩ = some (.slice x5.p4.a x5.p4.n x5.p4.c) := HD7.out.box.2.2.2.1
 have r0 : w7.cell? ⟨R, 0, none⟩ = some (.slice none 0 0) := HR7.out.box.1
 have r1 : w7.cell? ⟨R, 1, none⟩ = some (.slice none 0 0) := HR7.out.box.2.1
 have r2 : w7.cell? ⟨R, 2, none⟩ = some (.slice none 0 0) := HR7.out.box.2.2.1
 have r3 : w7.cell? ⟨R, 3, none⟩ = some (.slice none 0 0) := HR7.out.box.2.2.2.1
 have z0 := HR7.out.fz 0
 have z1 := HR7.out.fz 1
 have z2 := HR7.out.fz 2
 have z3 := HR7.out.fz 3
 have hl5 := HR7.out.lt
 go_wp2_with fail
 have HX : Hid (DBlk ((((w7.setCell ⟨R, 0, none⟩ (.slice x5.p1.a x5.p1.n x5.p1.c)).setCell ⟨R, 1, none⟩ (.slice x5.p2.a x5.p2.n x5.p2.c)).setCell ⟨R, 2, none⟩ (.slice x5.p3.a x5.p3.n x5.p3.c)).setCell ⟨R, 3, none⟩ (.slice x5.p4.a x5.p4.n x5.p4.c)) R x5) := set4_blk HR7.out x5
 have HY : Hid (DOwx w.heap.size ((((w7.setCell ⟨R, 0, none⟩ (.slice x5.p1.a x5.p1.n x5.p1.c)).setCell ⟨R, 1, none⟩ (.slice x5.p2.a x5.p2.n x5.p2.c)).setCell ⟨R, 2, none⟩ (.slice x5.p3.a x5.p3.n x5.p3.c)).setCell ⟨R, 3, none⟩ (.slice x5.p4.a x5.p4.n x5.p4.c)) x5 d) := HO7.out.ret4 HS4.out HG4.out.size
 have hg4 : w7.grownBy ((((w7.setCell ⟨R, 0, none⟩ (.slice x5.p1.a x5.p1.n x5.p1.c)).setCell ⟨R, 1, none⟩ (.slice x5.p2.a x5.p2.n x5.p2.c)).setCell ⟨R, 2, none⟩ (.slice x5.p3.a x5.p3.n x5.p3.c)).setCell ⟨R, 3, none⟩ (.slice x5.p4.a x5.p4.n x5.p4.c)) (some R) := set4_grown w7 R x5
 have hbw : b < w.heap.size := by
   rcases HR.out.rd.1 with h0 | ⟨b', o', e', hb', _⟩
   · have := HR.out.len; rw [h0] at this; simp at this; omega
   · cases e'; exact hb'
 have HZ : Hid (w.grownBy ((((w7.setCell ⟨R, 0, none⟩ (.slice x5.p1.a x5.p1.n x5.p1.c)).setCell ⟨R, 1, none⟩ (.slice x5.p2.a x5.p2.n x5.p2.c)).setCell ⟨R, 2, none⟩ (.slice x5.p3.a x5.p3.n x5.p3.c)).setCell ⟨R, 3, none⟩ (.slice x5.p4.a x5.p4.n x5.p4.c)) (some r)) := grown_apx HG7.out hg4 (fun j e => by injection e with e; rw [<- e, HRR.out]; exact Nat.le_refl _)
 have HV : Hid (Rdr ((((w7.setCell ⟨R, 0, none⟩ (.slice x5.p1.a x5.p1.n x5.p1.c)).setCell ⟨R, 1, none⟩ (.slice x5.p2.a x5.p2.n x5.p2.c)).setCell ⟨R, 2, none⟩ (.slice x5.p3.a x5.p3.n x5.p3.c)).setCell ⟨R, 3, none⟩ (.slice x5.p4.a x5.p4.n x5.p4.c)) r (some ⟨b, o, none⟩) n c zs (p + size)) := HM7.out.app hg4 (B := R) (by rw [HRR.out]; exact hbw) hRw (box_lt HM7.out.box) (Nat.lt_of_lt_of_le hbw HG7.out.size) (fun j e => by injection e with e; omega)
 clear hg4 d0 d1 d2 d3 r0 r1 r2 r3 z0 z1 z2 z3 hl5
 generalize ((((w7.setCell ⟨R, 0, none⟩ (.slice x5.p1.a x5.p1.n x5.p1.c)).setCell ⟨R, 1, none⟩ (.slice x5.p2.a x5.p2.n x5.p2.c)).setCell ⟨R, 2, none⟩ (.slice x5.p3.a x5.p3.n x5.p3.c)).setCell ⟨R, 3, none⟩ (.slice x5.p4.a x5.p4.n x5.p4.c)) = W9 at *
 have k0 := HX.out.box.1
 have k1 := HX.out.box.2.1
 have k2 := HX.out.box.2.2.1
 have k3 := HX.out.box.2.2.2.1
 try simp only at k0 k1 k2 k3
 exact bodyPost_ret (v := .agg #[.slice x5.p1.a x5.p1.n x5.p1.c, .slice x5.p2.a x5.p2.n x5.p2.c, .slice x5.p3.a x5.p3.n x5.p3.c, .slice x5.p4.a x5.p4.n x5.p4.c]) (by simp [results, Tryz.results92, go_sem, k0, k1, k2, k3]) rfl ⟨x5, rfl, HV.out, HY.out, HZ.out⟩
end Go.Proofs.YtkjnbgekaifdfaaGreat
namespace Go.Proofs.YtkjnbgekaifdfaaGreat
open Go.ChangeShapes Go.WideShapes Go.ChangeAt Go.RowKit Go.Maps
set_option maxHeartbeats 4000000 in
theorem rdata_pl_ok2 (r b o n : Nat) (zs : List Int) (p t size : Nat) (w : World) (h : Rdr w r (some ⟨b, o, none⟩) n p zs p) (h1 : 1 <= n) (hz : size <= 65535) (hl : p + size <= n) (hs : sqt t = false) (d : Dat) (hd : readF t ((zs.drop p).take size) = (d, 0)) :
   Calls Tryz.prog 92 #[.pointer (some ⟨r, 0, none⟩), .int .u16 t, .int .i64 size] w (RdDP r b o n p zs w (d, p + size)) := by
 have KY := fun W => Lib.hid (need_yes W)
 have KN := fun W => Lib.hid (need_no W)
 have KQ := fun W => Lib.hid (squeezed_any t W)
 have hn47 := h.big
 have hcap := h.cap
 have hlen := h.len
 have c0 : w.cell? ⟨r, 0, none⟩ = some (.slice (some ⟨b, o, none⟩) n p) := box_cell h.box 0 _ rfl
 have c1 : w.cell? ⟨r, 1, none⟩ = some (.int .i64 p) := box_cell h.box 1 _ rfl
 have hlt := box_lt h.box
 have hrw : r < w.heap.size := box_lt h.box
 have HR := Lib.hid h
 rw [hs] at KQ
 have k1 : (size : Int) <= (n : Int) - (p : Int) := by omega
 have hws : IntKind.i64.wrap ((p : Int) + (size : Int)) = (p : Int) + (size : Int) := wrap_in (by omega) (by omega)
 have b1 : (0 : Int) <= (p : Int) := by omega
 have b2 : (p : Int) <= (p : Int) + (size : Int) := by omega
 have b3 : (p : Int) + (size : Int) <= (p : Int) := by omega
 have b4 : ((p : Int) + (size : Int)).toNat - p = size := by omega
 have hb0 : Below w.heap.size w (w.alloc (.cells #[.slice none 0 0, .slice none 0 0, .slice none 0 0, .slice none 0 0] 60)) := newq_below _ _
 have HR0 := Lib.hid (h.below hb0)
 have hD0 : DBlk (w.alloc (.cells #[.slice none 0 0, .slice none 0 0, .slice none 0 0, .slice none 0 0] 60)) w.heap.size nilDA := by
   show (w.heap.push _)[w.heap.size]? = _
   simp
 have hsz0 : (w.alloc (.cells #[.slice none 0 0, .slice none 0 0, .slice none 0 0, .slice none 0 0] 60)).heap.size = w.heap.size + 1 := Array.size_push _
 have HD0 := Lib.hid hD0
 have HS0 := Lib.hid hsz0
 have HB0 := Lib.hid hb0
 obtain ⟨R, hR⟩ : ∃ R, R = w.heap.size := ⟨_, rfl⟩
 have HRR := Lib.hid hR
 rw [<- hR] at HD0 HS0
 clear h hD0 hsz0 hb0
 go_enter Tryz.func92, Tryz.ntmps92
 go_wp2_with fail
 simp only [<- hR]
 generalize w.alloc (.cells #[.slice none 0 0, .slice none 0 0, .slice none 0 0, .slice none 0 0] 60) = w0 at *
 clear c0 c1 hlt hR
 have c0 : w0.cell? ⟨r, 0, none⟩ = some (.slice (some ⟨b, o, none⟩) n p) := box_cell HR0.out.box 0 _ rfl
 have c1 : w0.cell? ⟨r, 1, none⟩ = some (.int .i64 p) := box_cell HR0.out.box 1 _ rfl
 have hlt := box_lt HR0.out.box
 go_quiet (first
   | (go_at_call 60; exact Calls.quiet_of_same (KY _).out))
 have HB1 := Lib.hid (below_dn w0 nq)
 generalize w0.drewN nq = w1 at *
 clear c0 c1 hlt
 have HR1 := Lib.hid (HR0.out.below HB1.out)
 have c0 : w1.cell? ⟨r, 0, none⟩ = some (.slice (some ⟨b, o, none⟩) n p) := box_cell HR1.out.box 0 _ rfl
 have c1 : w1.cell? ⟨r, 1, none⟩ = some (.int .i64 p) := box_cell HR1.out.box 1 _ rfl
 have hlt := box_lt HR1.out.box
 go_wp2_with fail
 go_quiet (fail)
 have HB2 := Lib.hid (below_dn w1 nq)
 generalize w1.drewN nq = w2 at *
 clear c0 c1 hlt
 have HR2 := Lib.hid (HR1.out.below HB2.out)
 have HD2 : Hid (DBlk w2 R nilDA) := (HB2.out.block R (by have := HB1.out.size; have := HS0.out; omega)).trans ((HB1.out.block R (by have := HS0.out; omega)).trans HD0.out)
 have HG2 : Hid (Below w.heap.size w w2) := HB0.out.trans ((HB1.out.mono (by have := HS0.out; have := HRR.out; omega)).trans (HB2.out.mono (by have := HB1.out.size; have := HS0.out; have := HRR.out; omega)))
 have HS2 : Hid (R < w2.heap.size) := (by have := HB1.out.size; have := HB2.out.size; have := HS0.out; omega : R < w2.heap.size)
 have hRw : r < R := by rw [HRR.out]; exact hrw
 clear HB0 HB1 HB2 HD0 HS0 HR0 HR1
 go_wp2_with fail
 refine (KQ w2).out.mono ?_
 rintro e1 w3 ⟨rfl, hw3⟩
 subst w3
 go_wp2_with fail
 have HG4 : Hid (w.grownBy w2 (some r)) := grown_of HG2.out
 have HR4 : Hid (∃ q, Rdr w2 r (some ⟨b, o, none⟩) n p zs q) := ⟨p, HR2.out⟩
 have HD4 := HD2
 have HS4 := HS2
 have K5 : Hid (Calls Tryz.prog 116 #[.int .u16 t, .slice (some ⟨b, o, none⟩) size 0] w2 (RdP (readF t ((zs.drop p).take size)) w2)) := by
   have e0 : size = 0 := by omega
   have e1 : (zs.drop p).take size = [] := by rw [e0]; rfl
   rw [e1]
   exact read5_any t _ size 0 [] w2 ⟨.inl rfl, by simp⟩ (by simp; omega) ⟨by omega, by omega⟩ (fun e => by cases e)
 clear HD2 HS2 HG2 HR2
 generalize w2 = w4 at *
 rw [hd] at K5
 go_wp2_with fail
 refine K5.out.mono ?_
 rintro e5 w5 ⟨x5, rfl, H5⟩
 have hn5 := newq_below w5 (.cells #[.slice x5.p1.a x5.p1.n x5.p1.c, .slice x5.p2.a x5.p2.n x5.p2.c, .slice x5.p3.a x5.p3.n x5.p3.c, .slice x5.p4.a x5.p4.n x5.p4.c] 60)
 obtain ⟨D, hD⟩ : ∃ D, D = w5.heap.size := ⟨_, rfl⟩
 have HB6 : Hid (Below w4.heap.size w4 (w5.alloc (.cells #[.slice x5.p1.a x5.p1.n x5.p1.c, .slice x5.p2.a x5.p2.n x5.p2.c, .slice x5.p3.a x5.p3.n x5.p3.c, .slice x5.p4.a x5.p4.n x5.p4.c] 60))) := H5.out.2.trans (hn5.mono H5.out.2.size)
 have HO6 : Hid (DOwx w4.heap.size (w5.alloc (.cells #[.slice x5.p1.a x5.p1.n x5.p1.c, .slice x5.p2.a x5.p2.n x5.p2.c, .slice x5.p3.a x5.p3.n x5.p3.c, .slice x5.p4.a x5.p4.n x5.p4.c] 60)) x5 d) := (H5.out.1.stays hn5).x
 have HD6 : Hid (DBlk (w5.alloc (.cells #[.slice x5.p1.a x5.p1.n x5.p1.c, .slice x5.p2.a x5.p2.n x5.p2.c, .slice x5.p3.a x5.p3.n x5.p3.c, .slice x5.p4.a x5.p4.n x5.p4.c] 60)) D x5) := by rw [hD]; exact heap_alloc_new _ _
 have hDs : w4.heap.size <= D := by rw [hD]; exact H5.out.2.size
 go_wp2_with fail
 rw [<- hD]
 generalize w5.alloc (.cells #[.slice x5.p1.a x5.p1.n x5.p1.c, .slice x5.p2.a x5.p2.n x5.p2.c, .slice x5.p3.a x5.p3.n x5.p3.c, .slice x5.p4.a x5.p4.n x5.p4.c] 60) = w6 at *
 clear hD hn5 H5 K5
 obtain ⟨q, hq⟩ := HR4.out
 have HR6 := Lib.hid (hq.below HB6.out)
 have HR6b : Hid (DBlk w6 R nilDA) := HD4.out.same (HB6.out.block R HS4.out)
 clear hq HR4
 refine (KY w6).out.mono ?_
 rintro e7 w7 ⟨rfl, hw7⟩
 subst w7
 have c1 : w6.cell? ⟨r, 1, none⟩ = some (.int .i64 q) := box_cell HR6.out.box 1 _ rfl
 have hlt := box_lt HR6.out.box
 have hfz := box_frozen HR6.out.box 1
 have HMV := Lib.hid (HR6.out.move (p + size) hl)
 have hcast : ((p + size : Nat) : Int) = (p : Int) + (size : Int) := by omega
 rw [hcast] at HMV
 clear hcast
 go_upto_region 9 with fail
 generalize w6.setCell ⟨r, 1, none⟩ (.int .i64 ((p : Int) + (size : Int))) = w7 at *
 have hRr : ¬ R = r := by omega
 have hDr : ¬ D = r := by have := HS4.out; omega
 have hDR : ¬ D = R := by have := HS4.out; omega
 have hRD : ¬ R = D := by have := HS4.out; omega
 have HD7 : Hid (DBlk w7 D x5) := HD6.out.same (HMV.out.2.block D HD6.out.lt (fun e => by injection e with e; exact hDr e))
 have HR7 : Hid (DBlk w7 R nilDA) := HR6b.out.same (HMV.out.2.block R HR6b.out.lt (fun e => by injection e with e; exact hRr e))
 have HO7 : Hid (DOwx w4.heap.size w7 x5 d) := HO6.out.keep (fun j hj hj2 => HMV.out.2.block j hj2 (fun e => by injection e with e; have := HS4.out; omega))
 have HG7 : Hid (w.grownBy w7 (some r)) := grown_trans (grown_trans HG4.out (grown_of HB6.out)) HMV.out.2
 have HM7 : Hid (Rdr w7 r (some ⟨b, o, none⟩) n p zs (p + size)) := HMV.out.1
 clear c1 hlt hfz HMV HO6 HD6 HR6 HR6b HB6
 have d0 : w7.cell? ⟨D, 0, none⟩ = some (.slice x5.p1.a x5.p1.n x5.p1.c) := HD7.out.box.1
 have d1 : w7.cell? ⟨D, 1, none⟩ = some (.slice x5.p2.a x5.p2.n x5.p2.c) := HD7.out.box.2.1
 have d2 : w7.cell? ⟨D, 2, none⟩ = some (.slice x5.p3.a x5.p3.n x5.p3.c) := HD7.out.box.2.2.1
 have d3 : w7.cell? ⟨D, 3, none⟩ = some (.slice x5.p4.a x5.p4.n x5.p4.c) := HD7.out.box.2.2.2.1
 have r0 : w7.cell? ⟨R, 0, none⟩ = some (.slice none 0 0) := HR7.out.box.1
 have r1 : w7.cell? ⟨R, 1, none⟩ = some (.slice none 0 0) := HR7.out.box.2.1
 have r2 : w7.cell? ⟨R, 2, none⟩ = some (.slice none 0 0) := HR7.out.box.2.2.1
 have r3 : w7.cell? ⟨R, 3, none⟩ = some (.slice none 0 0) := HR7.out.box.2.2.2.1
 have z0 := HR7.out.fz 0
 have z1 := HR7.out.fz 1
 have z2 := HR7.out.fz 2
 have z3 := HR7.out.fz 3
 have hl5 := HR7.out.lt
 go_wp2_with fail
 have HX : Hid (DBlk ((((w7.setCell ⟨R, 0, none⟩ (.slice x5.p1.a x5.p1.n x5.p1.c)).setCell ⟨R, 1, none⟩ (.slice x5.p2.a x5.p2.n x5.p2.c)).setCell ⟨R, 2, none⟩ (.slice x5.p3.a x5.p3.n x5.p3.c)).setCell ⟨R, 3, none⟩ (.slice x5.p4.a x5.p4.n x5.p4.c)) R x5) := set4_blk HR7.out x5
 have HY : Hid (DOwx w.heap.size ((((w7.setCell ⟨R, 0, none⟩ (.slice x5.p1.a x5.p1.n x5.p1.c)).setCell ⟨R, 1, none⟩ (.slice x5.p2.a x5.p2.n x5.p2.c)).setCell ⟨R, 2, none⟩ (.slice x5.p3.a x5.p3.n x5.p3.c)).setCell ⟨R, 3, none⟩ (.slice x5.p4.a x5.p4.n x5.p4.c)) x5 d) := HO7.out.ret4 HS4.out HG4.out.size
 have hg4 : w7.grownBy ((((w7.setCell ⟨R, 0, none⟩ (.slice x5.p1.a x5.p1.n x5.p1.c)).setCell ⟨R, 1, none⟩ (.slice x5.p2.a x5.p2.n x5.p2.c)).setCell ⟨R, 2, none⟩ (.slice x5.p3.a x5.p3.n x5.p3.c)).setCell ⟨R, 3, none⟩ (.slice x5.p4.a x5.p4.n x5.p4.c)) (some R) := set4_grown w7 R x5
 have hbw : b < w.heap.size := by
   rcases HR.out.rd.1 with h0 | ⟨b', o', e', hb', _⟩
   · have := HR.out.len; rw [h0] at this; simp at this; omega
   · cases e'; exact hb'
 have HZ : Hid (w.grownBy ((((w7.setCell ⟨R, 0, none⟩ (.slice x5.p1.a x5.p1.n x5.p1.c)).setCell ⟨R, 1, none⟩ (.slice x5.p2.a x5.p2.n x5.p2.c)).setCell ⟨R, 2, none⟩ (.slice x5.p3.a x5.p3.n x5.p3.c)).setCell ⟨R, 3, none⟩ (.slice x5.p4.a x5.p4.n x5.p4.c)) (some r)) := grown_apx HG7.out hg4 (fun j e => by injection e with e; rw [<- e, HRR.out]; exact Nat.le_refl _)
 have HV : Hid (Rdr ((((w7.setCell ⟨R, 0, none⟩ (.slice x5.p1.a x5.p1.n x5.p1.c)).setCell ⟨R, 1, none⟩ (.slice x5.p2.a x5.p2.n x5.p2.c)).setCell ⟨R, 2, none⟩ (.slice x5.p3.a x5.p3.n x5.p3.c)).setCell ⟨R, 3, none⟩ (.slice x5.p4.a x5.p4.n x5.p4.c)) r (some ⟨b, o, none⟩) n p zs (p + size)) := HM7.out.app hg4 (B := R) (by rw [HRR.out]; exact hbw) hRw (box_lt HM7.out.box) (Nat.lt_of_lt_of_le hbw HG7.out.size) (fun j e => by injection e with e; omega)
 clear hg4 d0 d1 d2 d3 r0 r1 r2 r3 z0 z1 z2 z3 hl5
 generalize ((((w7.setCell ⟨R, 0, none⟩ (.slice x5.p1.a x5.p1.n x5.p1.c)).setCell ⟨R, 1, none⟩ (.slice x5.p2.a x5.p2.n x5.p2.c)).setCell ⟨R, 2, none⟩ (.slice x5.p3.a x5.p3.n x5.p3.c)).setCell ⟨R, 3, none⟩ (.slice x5.p4.a x5.p4.n x5.p4.c)) = W9 at *
 have k0 := HX.out.box.1
 have k1 := HX.out.box.2.1
 have k2 := HX.out.box.2.2.1
 have k3 := HX.out.box.2.2.2.1
 try simp only at k0 k1 k2 k3
 exact bodyPost_ret (v := .agg #[.slice x5.p1.a x5.p1.n x5.p1.c, .slice x5.p2.a x5.p2.n x5.p2.c, .slice x5.p3.a x5.p3.n x5.p3.c, .slice x5.p4.a x5.p4.n x5.p4.c]) (by simp [results, Tryz.results92, go_sem, k0, k1, k2, k3]) rfl ⟨x5, rfl, HV.out, HY.out, HZ.out⟩
end Go.Proofs.YtkjnbgekaifdfaaGreat
namespace Go.Proofs.YtkjnbgekaifdfaaGreat
open Go.ChangeShapes Go.WideShapes Go.ChangeAt Go.RowKit Go.Maps
set_option maxHeartbeats 4000000 in
theorem rdata_pl_bad (r b o n c : Nat) (zs : List Int) (p t size : Nat) (w : World) (h : Rdr w r (some ⟨b, o, none⟩) n c zs p) (h1 : 1 <= n) (hz : size <= 65535) (hl : p + size <= n) (hs : sqt t = false) (hd : (readF t ((zs.drop p).take size)).2 ≠ 0) (hcp : ¬ c = p) :
   Calls Tryz.prog 92 #[.pointer (some ⟨r, 0, none⟩), .int .u16 t, .int .i64 size] w fun e w' => e = .panicked thrown /\ Hid (w.grownBy w' (some r)) := by
 have KY := fun W => Lib.hid (need_yes W)
 have KN := fun W => Lib.hid (need_no W)
 have KQ := fun W => Lib.hid (squeezed_any t W)
 have hn47 := h.big
 have hcap := h.cap
 have hlen := h.len
 have c0 : w.cell? ⟨r, 0, none⟩ = some (.slice (some ⟨b, o, none⟩) n c) := box_cell h.box 0 _ rfl
 have c1 : w.cell? ⟨r, 1, none⟩ = some (.int .i64 p) := box_cell h.box 1 _ rfl
 have hlt := box_lt h.box
 have hrw : r < w.heap.size := box_lt h.box
 have HR := Lib.hid h
 rw [hs] at KQ
 have k1 : (size : Int) <= (n : Int) - (p : Int) := by omega
 have hws : IntKind.i64.wrap ((p : Int) + (size : Int)) = (p : Int) + (size : Int) := wrap_in (by omega) (by omega)
 have b1 : (0 : Int) <= (p : Int) := by omega
 have b2 : (p : Int) <= (p : Int) + (size : Int) := by omega
 have b3 : (p : Int) + (size : Int) <= (c : Int) := by omega
 have b4 : ((p : Int) + (size : Int)).toNat - p = size := by omega
 have hb0 : Below w.heap.size w (w.alloc (.cells #[.slice none 0 0, .slice none 0 0, .slice none 0 0, .slice none 0 0] 60)) := newq_below _ _
 have HR0 := Lib.hid (h.below hb0)
 have hD0 : DBlk (w.alloc (.cells #[.slice none 0 0, .slice none 0 0, .slice none 0 0, .slice none 0 0] 60)) w.heap.size nilDA := by
   show (w.heap.push _)[w.heap.size]? = _
   simp
 have hsz0 : (w.alloc (.cells #[.slice none 0 0, .slice none 0 0, .slice none 0 0, .slice none 0 0] 60)).heap.size = w.heap.size + 1 := Array.size_push _
 have HD0 := Lib.hid hD0
 have HS0 := Lib.hid hsz0
 have HB0 := Lib.hid hb0
 obtain ⟨R, hR⟩ : ∃ R, R = w.heap.size := ⟨_, rfl⟩
 have HRR := Lib.hid hR
 rw [<- hR] at HD0 HS0
 clear h hD0 hsz0 hb0
 go_enter Tryz.func92, Tryz.ntmps92
 go_wp2_with fail
 simp only [<- hR]
 generalize w.alloc (.cells #[.slice none 0 0, .slice none 0 0, .slice none 0 0, .slice none 0 0] 60) = w0 at *
 clear c0 c1 hlt hR
 have c0 : w0.cell? ⟨r, 0, none⟩ = some (.slice (some ⟨b, o, none⟩) n c) := box_cell HR0.out.box 0 _ rfl
 have c1 : w0.cell? ⟨r, 1, none⟩ = some (.int .i64 p) := box_cell HR0.out.box 1 _ rfl
 have hlt := box_lt HR0.out.box
 go_quiet (first
   | (go_at_call 60; exact Calls.quiet_of_same (KY _).out))
 have HB1 := Lib.hid (below_dn w0 nq)
 generalize w0.drewN nq = w1 at *
 clear c0 c1 hlt
 have HR1 := Lib.hid (HR0.out.below HB1.out)
 have c0 : w1.cell? ⟨r, 0, none⟩ = some (.slice (some ⟨b, o, none⟩) n c) := box_cell HR1.out.box 0 _ rfl
 have c1 : w1.cell? ⟨r, 1, none⟩ = some (.int .i64 p) := box_cell HR1.out.box 1 _ rfl
 have hlt := box_lt HR1.out.box
 go_wp2_with fail
 go_quiet (fail)
 have HB2 := Lib.hid (below_dn w1 nq)
 generalize w1.drewN nq = w2 at *
 clear c0 c1 hlt
 have HR2 := Lib.hid (HR1.out.below HB2.out)
 have HD2 : Hid (DBlk w2 R nilDA) := (HB2.out.block R (by have := HB1.out.size; have := HS0.out; omega)).trans ((HB1.out.block R (by have := HS0.out; omega)).trans HD0.out)
 have HG2 : Hid (Below w.heap.size w w2) := HB0.out.trans ((HB1.out.mono (by have := HS0.out; have := HRR.out; omega)).trans (HB2.out.mono (by have := HB1.out.size; have := HS0.out; have := HRR.out; omega)))
 have HS2 : Hid (R < w2.heap.size) := (by have := HB1.out.size; have := HB2.out.size; have := HS0.out; omega : R < w2.heap.size)
 have hRw : r < R := by rw [HRR.out]; exact hrw
 clear HB0 HB1 HB2 HD0 HS0 HR0 HR1
 go_wp2_with fail
 refine (KQ w2).out.mono ?_
 rintro e1 w3 ⟨rfl, hw3⟩
 subst w3
 go_wp2_with fail
 have HG4 : Hid (w.grownBy w2 (some r)) := grown_of HG2.out
 have HR4 : Hid (∃ q, Rdr w2 r (some ⟨b, o, none⟩) n c zs q) := ⟨p, HR2.out⟩
 have HD4 := HD2
 have HS4 := HS2
 have K5 : Hid (Calls Tryz.prog 116 #[.int .u16 t, .slice (some ⟨b, o + p, none⟩) size (c - p)] w2 (RdP (readF t ((zs.drop p).take size)) w2)) := by
   refine read5_any t _ size (c - p) ((zs.drop p).take size) w2 (HR2.out.rd.cut p size (by omega) (fun _ b' o' e' => by cases e'; first | rfl | omega)) (by simp; omega) ⟨by omega, by omega⟩ (fun e => by cases e)
 clear HD2 HS2 HG2 HR2
 generalize w2 = w4 at *
 generalize readF t ((zs.drop p).take size) = rr at *
 go_wp2_with fail
 refine K5.out.mono ?_
 rintro e5 w5 ⟨x5, rfl, H5⟩
 have hn5 := newq_below w5 (.cells #[.slice x5.p1.a x5.p1.n x5.p1.c, .slice x5.p2.a x5.p2.n x5.p2.c, .slice x5.p3.a x5.p3.n x5.p3.c, .slice x5.p4.a x5.p4.n x5.p4.c] 60)
 obtain ⟨D, hD⟩ : ∃ D, D = w5.heap.size := ⟨_, rfl⟩
 have HB6 : Hid (Below w4.heap.size w4 (w5.alloc (.cells #[.slice x5.p1.a x5.p1.n x5.p1.c, .slice x5.p2.a x5.p2.n x5.p2.c, .slice x5.p3.a x5.p3.n x5.p3.c, .slice x5.p4.a x5.p4.n x5.p4.c] 60))) := H5.out.2.trans (hn5.mono H5.out.2.size)
 have HO6 : Hid (DOwx w4.heap.size (w5.alloc (.cells #[.slice x5.p1.a x5.p1.n x5.p1.c, .slice x5.p2.a x5.p2.n x5.p2.c, .slice x5.p3.a x5.p3.n x5.p3.c, .slice x5.p4.a x5.p4.n x5.p4.c] 60)) x5 rr.1) := (H5.out.1.stays hn5).x
 have HD6 : Hid (DBlk (w5.alloc (.cells #[.slice x5.p1.a x5.p1.n x5.p1.c, .slice x5.p2.a x5.p2.n x5.p2.c, .slice x5.p3.a x5.p3.n x5.p3.c, .slice x5.p4.a x5.p4.n x5.p4.c] 60)) D x5) := by rw [hD]; exact heap_alloc_new _ _
 have hDs : w4.heap.size <= D := by rw [hD]; exact H5.out.2.size
 have hne : decide (rr.2 = 0) = false := by simp [hd]
 have hne2 : (rr.2 == 0) = false := by simp [hd]
 go_wp2_with fail
 generalize w5.alloc (.cells #[.slice x5.p1.a x5.p1.n x5.p1.c, .slice x5.p2.a x5.p2.n x5.p2.c, .slice x5.p3.a x5.p3.n x5.p3.c, .slice x5.p4.a x5.p4.n x5.p4.c] 60) = w6 at *
 refine (KN w6).out.mono ?_
 rintro e7 w7 ⟨rfl, hw7⟩
 subst w7
 go_wp2_with fail
 exact ⟨rfl, rfl, grown_trans HG4.out (grown_of HB6.out)⟩
end Go.Proofs.YtkjnbgekaifdfaaGreat
namespace Go.Proofs.YtkjnbgekaifdfaaGreat
open Go.ChangeShapes Go.WideShapes Go.ChangeAt Go.RowKit Go.Maps
set_option maxHeartbeats 4000000 in
theorem rdata_pl_bad2 (r b o n : Nat) (zs : List Int) (p t size : Nat) (w : World) (h : Rdr w r (some ⟨b, o, none⟩) n p zs p) (h1 : 1 <= n) (hz : size <= 65535) (hl : p + size <= n) (hs : sqt t = false) (hd : (readF t ((zs.drop p).take size)).2 ≠ 0) :
   Calls Tryz.prog 92 #[.pointer (some ⟨r, 0, none⟩), .int .u16 t, .int .i64 size] w fun e w' => e = .panicked thrown /\ Hid (w.grownBy w' (some r)) := by
 have KY := fun W => Lib.hid (need_yes W)
 have KN := fun W => Lib.hid (need_no W)
 have KQ := fun W => Lib.hid (squeezed_any t W)
 have hn47 := h.big
 have hcap := h.cap
 have hlen := h.len
 have c0 : w.cell? ⟨r, 0, none⟩ = some (.slice (some ⟨b, o, none⟩) n p) := box_cell h.box 0 _ rfl
 have c1 : w.cell? ⟨r, 1, none⟩ = some (.int .i64 p) := box_cell h.box 1 _ rfl
 have hlt := box_lt h.box
 have hrw : r < w.heap.size := box_lt h.box
 have HR := Lib.hid h
 rw [hs] at KQ
 have k1 : (size : Int) <= (n : Int) - (p : Int) := by omega
 have hws : IntKind.i64.wrap ((p : Int) + (size : Int)) = (p : Int) + (size : Int) := wrap_in (by omega) (by omega)
 have b1 : (0 : Int) <= (p : Int) := by omega
 have b2 : (p : Int) <= (p : Int) + (size : Int) := by omega
 have b3 : (p : Int) + (size : Int) <= (p : Int) := by omega
 have b4 : ((p : Int) + (size : Int)).toNat - p = size := by omega
 have hb0 : Below w.heap.size w (w.alloc (.cells #[.slice none 0 0, .slice none 0 0, .slice none 0 0, .slice none 0 0] 60)) := newq_below _ _
 have HR0 := Lib.hid (h.below hb0)
 have hD0 : DBlk (w.alloc (.cells #[.slice none 0 0, .slice none 0 0, .slice none 0 0, .slice none 0 0] 60)) w.heap.size nilDA := by
   show (w.heap.push _)[w.heap.size]? = _
   simp
 have hsz0 : (w.alloc (.cells #[.slice none 0 0, .slice none 0 0, .slice none 0 0, .slice none 0 0] 60)).heap.size = w.heap.size + 1 := Array.size_push _
 have HD0 := Lib.hid hD0
 have HS0 := Lib.hid hsz0
 have HB0 := Lib.hid hb0
 obtain ⟨R, hR⟩ : ∃ R, R = w.heap.size := ⟨_, rfl⟩
 have HRR := Lib.hid hR
 rw [<- hR] at HD0 HS0
 clear h hD0 hsz0 hb0
 go_enter Tryz.func92, Tryz.ntmps92
 go_wp2_with fail
 simp only [<- hR]
 generalize w.alloc (.cells #[.slice none 0 0, .slice none 0 0, .slice none 0 0, .slice none 0 0] 60) = w0 at *
 clear c0 c1 hlt hR
 have c0 : w0.cell? ⟨r, 0, none⟩ = some (.slice (some ⟨b, o, none⟩) n p) := box_cell HR0.out.box 0 _ rfl
 have c1 : w0.cell? ⟨r, 1, none⟩ = some (.int .i64 p) := box_cell HR0.out.box 1 _ rfl
 have hlt := box_lt HR0.out.box
 go_quiet (first
   | (go_at_call 60; exact Calls.quiet_of_same (KY _).out))
 have HB1 := Lib.hid (below_dn w0 nq)
 generalize w0.drewN nq = w1 at *
 clear c0 c1 hlt
 have HR1 := Lib.hid (HR0.out.below HB1.out)
 have c0 : w1.cell? ⟨r, 0, none⟩ = some (.slice (some ⟨b, o, none⟩) n p) := box_cell HR1.out.box 0 _ rfl
 have c1 : w1.cell? ⟨r, 1, none⟩ = some (.int .i64 p) := box_cell HR1.out.box 1 _ rfl
 have hlt := box_lt HR1.out.box
 go_wp2_with fail
 go_quiet (fail)
 have HB2 := Lib.hid (below_dn w1 nq)
 generalize w1.drewN nq = w2 at *
 clear c0 c1 hlt
 have HR2 := Lib.hid (HR1.out.below HB2.out)
 have HD2 : Hid (DBlk w2 R nilDA) := (HB2.out.block R (by have := HB1.out.size; have := HS0.out; omega)).trans ((HB1.out.block R (by have := HS0.out; omega)).trans HD0.out)
 have HG2 : Hid (Below w.heap.size w w2) := HB0.out.trans ((HB1.out.mono (by have := HS0.out; have := HRR.out; omega)).trans (HB2.out.mono (by have := HB1.out.size; have := HS0.out; have := HRR.out; omega)))
 have HS2 : Hid (R < w2.heap.size) := (by have := HB1.out.size; have := HB2.out.size; have := HS0.out; omega : R < w2.heap.size)
 have hRw : r < R := by rw [HRR.out]; exact hrw
 clear HB0 HB1 HB2 HD0 HS0 HR0 HR1
 go_wp2_with fail
 refine (KQ w2).out.mono ?_
 rintro e1 w3 ⟨rfl, hw3⟩
 subst w3
 go_wp2_with fail
 have HG4 : Hid (w.grownBy w2 (some r)) := grown_of HG2.out
 have HR4 : Hid (∃ q, Rdr w2 r (some ⟨b, o, none⟩) n p zs q) := ⟨p, HR2.out⟩
 have HD4 := HD2
 have HS4 := HS2
 have K5 : Hid (Calls Tryz.prog 116 #[.int .u16 t, .slice (some ⟨b, o, none⟩) size 0] w2 (RdP (readF t ((zs.drop p).take size)) w2)) := by
   have e0 : size = 0 := by omega
   have e1 : (zs.drop p).take size = [] := by rw [e0]; rfl
   rw [e1]
   exact read5_any t _ size 0 [] w2 ⟨.inl rfl, by simp⟩ (by simp; omega) ⟨by omega, by omega⟩ (fun e => by cases e)
 clear HD2 HS2 HG2 HR2
 generalize w2 = w4 at *
 generalize readF t ((zs.drop p).take size) = rr at *
 go_wp2_with fail
 refine K5.out.mono ?_
 rintro e5 w5 ⟨x5, rfl, H5⟩
 have hn5 := newq_below w5 (.cells #[.slice x5.p1.a x5.p1.n x5.p1.c, .slice x5.p2.a x5.p2.n x5.p2.c, .slice x5.p3.a x5.p3.n x5.p3.c, .slice x5.p4.a x5.p4.n x5.p4.c] 60)
 obtain ⟨D, hD⟩ : ∃ D, D = w5.heap.size := ⟨_, rfl⟩
 have HB6 : Hid (Below w4.heap.size w4 (w5.alloc (.cells #[.slice x5.p1.a x5.p1.n x5.p1.c, .slice x5.p2.a x5.p2.n x5.p2.c, .slice x5.p3.a x5.p3.n x5.p3.c, .slice x5.p4.a x5.p4.n x5.p4.c] 60))) := H5.out.2.trans (hn5.mono H5.out.2.size)
 have HO6 : Hid (DOwx w4.heap.size (w5.alloc (.cells #[.slice x5.p1.a x5.p1.n x5.p1.c, .slice x5.p2.a x5.p2.n x5.p2.c, .slice x5.p3.a x5.p3.n x5.p3.c, .slice x5.p4.a x5.p4.n x5.p4.c] 60)) x5 rr.1) := (H5.out.1.stays hn5).x
 have HD6 : Hid (DBlk (w5.alloc (.cells #[.slice x5.p1.a x5.p1.n x5.p1.c, .slice x5.p2.a x5.p2.n x5.p2.c, .slice x5.p3.a x5.p3.n x5.p3.c, .slice x5.p4.a x5.p4.n x5.p4.c] 60)) D x5) := by rw [hD]; exact heap_alloc_new _ _
 have hDs : w4.heap.size <= D := by rw [hD]; exact H5.out.2.size
 have hne : decide (rr.2 = 0) = false := by simp [hd]
 have hne2 : (rr.2 == 0) = false := by simp [hd]
 go_wp2_with fail
 generalize w5.alloc (.cells #[.slice x5.p1.a x5.p1.n x5.p1.c, .slice x5.p2.a x5.p2.n x5.p2.c, .slice x5.p3.a x5.p3.n x5.p3.c, .slice x5.p4.a x5.p4.n x5.p4.c] 60) = w6 at *
 refine (KN w6).out.mono ?_
 rintro e7 w7 ⟨rfl, hw7⟩
 subst w7
 go_wp2_with fail
 exact ⟨rfl, rfl, grown_trans HG4.out (grown_of HB6.out)⟩
end Go.Proofs.YtkjnbgekaifdfaaGreat
namespace Go.Proofs.YtkjnbgekaifdfaaGreat
open Go.ChangeShapes Go.WideShapes Go.ChangeAt Go.RowKit Go.Maps
theorem sqt_false {t : Nat} (h : ¬ sqt t = true) : sqt t = false := by simpa using h
theorem rdata_yes (r b o n c : Nat) (zs : List Int) (p t size : Nat) (x : Dat × Nat) (w : World) (h : Rdr w r (some ⟨b, o, none⟩) n c zs p) (h1 : 1 <= n) (hz : size <= 65535) (hx : gdat t size zs p = some x) :
   Calls Tryz.prog 92 #[.pointer (some ⟨r, 0, none⟩), .int .u16 t, .int .i64 size] w (RdDP r b o n c zs w x) := by
 unfold gdat at hx
 split at hx
 case isFalse => cases hx
 case isTrue hl =>
   have hl' : p + size <= n := by rw [<- h.len]; exact hl
   simp only [Option.bind_eq_some_iff, Option.map_eq_some_iff] at hx
   obtain ⟨L, hL, d, hd, rfl⟩ := hx
   have hrd := gdr_readF.1 d hd
   by_cases hs : sqt t = true
   · by_cases hcp : c = p
     · exfalso
       have hps : p < zs.length := by
         unfold gpl at hL
         rw [if_pos hs] at hL
         split at hL
         case isFalse => cases hL
         case isTrue ha =>
           simp only [Option.bind_eq_some_iff] at hL
           obtain ⟨y, hy, _⟩ := hL
           have := gm_pos (sqt_cnt hs).1 hy
           omega
       have := h.len
       have := h.cap.1
       omega
     · exact rdata_sq_ok r b o n c zs p t size w h h1 hz hl' hs L hL d hrd hcp
   · have hs' := sqt_false hs
     have hLe : L = (zs.drop p).take size := by
       unfold gpl at hL
       rw [if_neg hs] at hL
       injection hL with hL
       rw [<- hL]
       congr 1
       omega
     rw [hLe] at hrd
     by_cases hcp : c = p
     · subst hcp
       exact rdata_pl_ok2 r b o n zs c t size w h h1 hz hl' hs' d hrd
     · exact rdata_pl_ok r b o n c zs p t size w h h1 hz hl' hs' d hrd hcp
set_option maxHeartbeats 4000000 in
theorem rdata_long (r b o n c : Nat) (zs : List Int) (p t size : Nat) (w : World) (h : Rdr w r (some ⟨b, o, none⟩) n c zs p) (h1 : 1 <= n) (hz : size <= 65535) (hl : ¬ p + size <= n) :
   Calls Tryz.prog 92 #[.pointer (some ⟨r, 0, none⟩), .int .u16 t, .int .i64 size] w fun e w' => e = .panicked thrown /\ Hid (w.grownBy w' (some r)) := by
 have KN := fun W => Lib.hid (need_no W)
 have hn47 := h.big
 have hpn := h.pn
 have hb0 : Below w.heap.size w (w.alloc (.cells #[.slice none 0 0, .slice none 0 0, .slice none 0 0, .slice none 0 0] 60)) := newq_below _ _
 have HR0 := Lib.hid (h.below hb0)
 have c0 : w.cell? ⟨r, 0, none⟩ = some (.slice (some ⟨b, o, none⟩) n c) := box_cell h.box 0 _ rfl
 have c1 : w.cell? ⟨r, 1, none⟩ = some (.int .i64 p) := box_cell h.box 1 _ rfl
 have hlt := box_lt h.box
 have hrw : r < w.heap.size := box_lt h.box
 have k1 : ¬ (size : Int) <= (n : Int) - (p : Int) := by omega
 have k2 : ((n : Int) - (p : Int)) < (size : Int) := by omega
 have k3 : decide ((size : Int) <= (n : Int) - (p : Int)) = false := decide_eq_false k1
 have HB0 := Lib.hid hb0
 clear h hb0
 go_enter Tryz.func92, Tryz.ntmps92
 go_wp2_with fail
 generalize w.alloc (.cells #[.slice none 0 0, .slice none 0 0, .slice none 0 0, .slice none 0 0] 60) = w0 at *
 clear c0 c1 hlt
 have c0 : w0.cell? ⟨r, 0, none⟩ = some (.slice (some ⟨b, o, none⟩) n c) := box_cell HR0.out.box 0 _ rfl
 have c1 : w0.cell? ⟨r, 1, none⟩ = some (.int .i64 p) := box_cell HR0.out.box 1 _ rfl
 have hlt := box_lt HR0.out.box
 have hwr : IntKind.i64.wrap ((n : Int) - (p : Int)) = (n : Int) - (p : Int) := wrap_in (by omega) (by omega)
 go_region_dies
 all_goals (refine (KN _).out.mono ?_; rintro e1 w1 ⟨rfl, hw1⟩; subst w1; go_wp2; exact ⟨rfl, rfl, grown_of HB0.out.drew⟩)
theorem rdata_no (r b o n c : Nat) (zs : List Int) (p t size : Nat) (w : World) (h : Rdr w r (some ⟨b, o, none⟩) n c zs p) (h1 : 1 <= n) (hz : size <= 65535) (hx : gdat t size zs p = none) :
   Calls Tryz.prog 92 #[.pointer (some ⟨r, 0, none⟩), .int .u16 t, .int .i64 size] w fun e w' => e = .panicked thrown /\ Hid (w.grownBy w' (some r)) := by
 unfold gdat at hx
 split at hx
 case isFalse hl =>
   exact rdata_long r b o n c zs p t size w h h1 hz (by rw [<- h.len]; exact hl)
 case isTrue hl =>
   have hl' : p + size <= n := by rw [<- h.len]; exact hl
   by_cases hs : sqt t = true
   · cases hL : gpl t zs p (p + size) with
     | none =>
       by_cases hcp : c = p
       · exact rdata_sq_no2 r b o n c zs p t size w h h1 hz hl' hs hL hcp
       · exact rdata_sq_no r b o n c zs p t size w h h1 hz hl' hs hL hcp
     | some L =>
       rw [hL] at hx
       simp only [Option.bind_some, Option.map_eq_none_iff] at hx
       have hrd := gdr_readF.2 hx
       by_cases hcp : c = p
       · exfalso
         have hps : p < zs.length := by
           unfold gpl at hL
           rw [if_pos hs] at hL
           split at hL
           case isFalse => cases hL
           case isTrue ha =>
             simp only [Option.bind_eq_some_iff] at hL
             obtain ⟨y, hy, _⟩ := hL
             have := gm_pos (sqt_cnt hs).1 hy
             omega
         have := h.len
         have := h.cap.1
         omega
       · exact rdata_sq_bad r b o n c zs p t size w h h1 hz hl' hs L hL hrd hcp
   · have hs' := sqt_false hs
     have hL : gpl t zs p (p + size) = some ((zs.drop p).take size) := by
       unfold gpl
       rw [if_neg hs]
       congr 2
       omega
     rw [hL] at hx
     simp only [Option.bind_some, Option.map_eq_none_iff] at hx
     have hrd := gdr_readF.2 hx
     by_cases hcp : c = p
     · subst hcp
       exact rdata_pl_bad2 r b o n zs c t size w h h1 hz hl' hs' hrd
     · exact rdata_pl_bad r b o n c zs p t size w h h1 hz hl' hs' hrd hcp
end Go.Proofs.YtkjnbgekaifdfaaGreat
namespace Go.Proofs.YtkjnbgekaifdfaaGreat
open Go.ChangeShapes Go.WideShapes Go.ChangeAt Go.RowKit
structure QsRd (w : World) (s : Sl) (qs : List Qn) : Prop where
 rd : qs = [] ∨ ∃ b o, s.a = some ⟨b, o, none⟩ /\ b < w.heap.size /\ ∀ i (h : i < qs.length), ∃ x : QA, w.cell? ⟨b, o + i * 3, none⟩ = some (.slice x.s.a x.s.n x.s.c) /\ w.cell? ⟨b, o + i * 3 + 1, none⟩ = some (.int .u16 (x.ty : Int)) /\ w.cell? ⟨b, o + i * 3 + 2, none⟩ = some (.int .u16 (x.cl : Int)) /\ QOk w x qs[i]
 len : qs.length = s.n
 cap : s.n <= s.c /\ s.c <= 9223372036854775807
 nil : s.a = none -> s.c = 0
theorem QsRd.below {w w' : World} {s : Sl} {qs : List Qn} (h : QsRd w s qs) (hb : Below w.heap.size w w') : QsRd w' s qs := by
 refine ⟨?_, h.len, h.cap, h.nil⟩
 rcases h.rd with h1 | ⟨b, o, h1, h2, h3⟩
 · exact .inl h1
 · refine .inr ⟨b, o, h1, Nat.lt_of_lt_of_le h2 hb.size, fun i hi => ?_⟩
   obtain ⟨x, e1, e2, e3, h5⟩ := h3 i hi
   exact ⟨x, (hb.cell (p := ⟨b, o + i * 3, none⟩) h2).trans e1, (hb.cell (p := ⟨b, o + i * 3 + 1, none⟩) h2).trans e2, (hb.cell (p := ⟨b, o + i * 3 + 2, none⟩) h2).trans e3, h5.below hb⟩
theorem QsRd.at {w : World} {s : Sl} {qs : List Qn} (h : QsRd w s qs) (i : Nat) (hi : i < qs.length) : ∃ b o, s.a = some ⟨b, o, none⟩ /\ b < w.heap.size /\ ∃ x : QA, w.cell? ⟨b, o + i * 3, none⟩ = some (.slice x.s.a x.s.n x.s.c) /\ w.cell? ⟨b, o + i * 3 + 1, none⟩ = some (.int .u16 (x.ty : Int)) /\ w.cell? ⟨b, o + i * 3 + 2, none⟩ = some (.int .u16 (x.cl : Int)) /\ QOk w x qs[i] := by
 rcases h.rd with h1 | ⟨b, o, h1, h2, h3⟩
 · subst h1; simp at hi
 · exact ⟨b, o, h1, h2, h3 i hi⟩
end Go.Proofs.YtkjnbgekaifdfaaGreat
namespace Go.Proofs.YtkjnbgekaifdfaaGreat
open Go.ChangeShapes Go.WideShapes Go.ChangeAt Go.RowKit
set_option maxHeartbeats 2000000 in
theorem samer45 (x y : RA) (r : Rec) (w : World) (h1 : RRd w x r) (h2 : RRd w y r) :
   Calls Tryz.prog 74 #[.agg (recCells x r).toArray, .agg (recCells y r).toArray] w fun e w' => e = .returned (.bool true) /\ Below w.heap.size w w' := by
 have KD : ∀ W, Below w.heap.size w W -> Hid (Calls Tryz.prog 102 #[.agg #[.slice x.d.p1.a x.d.p1.n x.d.p1.c, .slice x.d.p2.a x.d.p2.n x.d.p2.c, .slice x.d.p3.a x.d.p3.n x.d.p3.c, .slice x.d.p4.a x.d.p4.n x.d.p4.c], .agg #[.slice y.d.p1.a y.d.p1.n y.d.p1.c, .slice y.d.p2.a y.d.p2.n y.d.p2.c, .slice y.d.p3.a y.d.p3.n y.d.p3.c, .slice y.d.p4.a y.d.p4.n y.d.p4.c]] W fun e w' => e = .returned (.bool true) /\ Hid (Below W.heap.size W w')) := fun W hb => samedata_yes x.d y.d r.d W (h1.2.below hb) (h2.2.below hb)
 have hnn : x.o.n = y.o.n := h1.1.len.symm.trans h2.1.len
 have KN : ∀ W, Below w.heap.size w W -> Hid (Calls Tryz.prog 101 #[.slice x.o.a x.o.n x.o.c, .slice y.o.a x.o.n y.o.c] W fun e w' => e = .returned (.bool true) /\ Hid (Below W.heap.size W w')) := fun W hb => sameN_yes x.o.a y.o.a x.o.n x.o.c y.o.c r.ow W (h1.1.rd.below hb) (h2.1.rd.below hb) h1.1.len (Nat.le_trans h1.1.cap.1 h1.1.cap.2)
 clear h1 h2
 obtain ⟨⟨xa, xn, xc⟩, ⟨⟨xa1, xn1, xc1⟩, ⟨xa2, xn2, xc2⟩, ⟨xa3, xn3, xc3⟩, ⟨xa4, xn4, xc4⟩⟩⟩ := x
 obtain ⟨⟨ya, yn, yc⟩, ⟨⟨ya1, yn1, yc1⟩, ⟨ya2, yn2, yc2⟩, ⟨ya3, yn3, yc3⟩, ⟨ya4, yn4, yc4⟩⟩⟩ := y
 obtain ⟨ow, t, cl, tt, d⟩ := r
 simp only at KD KN hnn
 subst hnn
 show Calls Tryz.prog 74 #[.agg #[.slice xa xn xc, .int .u16 (t : Int), .int .u16 (cl : Int), .int .u32 (tt : Int), .slice xa1 xn1 xc1, .slice xa2 xn2 xc2, .slice xa3 xn3 xc3, .slice xa4 xn4 xc4], .agg #[.slice ya xn yc, .int .u16 (t : Int), .int .u16 (cl : Int), .int .u32 (tt : Int), .slice ya1 yn1 yc1, .slice ya2 yn2 yc2, .slice ya3 yn3 yc3, .slice ya4 yn4 yc4]] w fun e w' => e = .returned (.bool true) /\ Below w.heap.size w w'
 go_enter Tryz.func74, Tryz.ntmps74
 go_wp2_with fail
 refine (KN _ (((Below.refl _ _).alloc (Nat.le_refl _) _).alloc (by simp) _)).out.mono ?_
 rintro e w2 ⟨rfl, hb2'⟩
 have hb2 := hb2'.out
 have HB2 : Hid (Below w.heap.size w w2 /\ w2.heap[w.heap.size]? = some (.cells #[.slice xa xn xc, .int .u16 (t : Int), .int .u16 (cl : Int), .int .u32 (tt : Int), .slice xa1 xn1 xc1, .slice xa2 xn2 xc2, .slice xa3 xn3 xc3, .slice xa4 xn4 xc4] 62) /\ w2.heap[w.heap.size + 1]? = some (.cells #[.slice ya xn yc, .int .u16 (t : Int), .int .u16 (cl : Int), .int .u32 (tt : Int), .slice ya1 yn1 yc1, .slice ya2 yn2 yc2, .slice ya3 yn3 yc3, .slice ya4 yn4 yc4] 62)) := by
   refine ⟨(((Below.refl _ _).alloc (Nat.le_refl _) _).alloc (by simp) _).trans (hb2.mono (by simp; omega)), (hb2.block _ (by simp; omega)).trans (block_alloc (alloc_at _ _) _), (hb2.block _ (by simp)).trans ?_⟩
   have := alloc_at (w.alloc (.cells #[.slice xa xn xc, .int .u16 (t : Int), .int .u16 (cl : Int), .int .u32 (tt : Int), .slice xa1 xn1 xc1, .slice xa2 xn2 xc2, .slice xa3 xn3 xc3, .slice xa4 xn4 xc4] 62)) (.cells #[.slice ya xn yc, .int .u16 (t : Int), .int .u16 (cl : Int), .int .u32 (tt : Int), .slice ya1 yn1 yc1, .slice ya2 yn2 yc2, .slice ya3 yn3 yc3, .slice ya4 yn4 yc4] 62)
   simp only [World.size_alloc] at this
   exact this
 clear hb2 hb2' KN
 have p0 := block_lt HB2.out.2.1
 have p1 := block_lt HB2.out.2.2
 have u0 : w2.cell? ⟨w.heap.size, 0, none⟩ = some (.slice xa xn xc) := cell_of_block HB2.out.2.1 rfl
 have u1 : w2.cell? ⟨w.heap.size, 1, none⟩ = some (.int .u16 (t : Int)) := cell_of_block HB2.out.2.1 rfl
 have u2 : w2.cell? ⟨w.heap.size, 2, none⟩ = some (.int .u16 (cl : Int)) := cell_of_block HB2.out.2.1 rfl
 have u3 : w2.cell? ⟨w.heap.size, 3, none⟩ = some (.int .u32 (tt : Int)) := cell_of_block HB2.out.2.1 rfl
 have u4 : w2.cell? ⟨w.heap.size, 4, none⟩ = some (.slice xa1 xn1 xc1) := cell_of_block HB2.out.2.1 rfl
 have u5 : w2.cell? ⟨w.heap.size, 5, none⟩ = some (.slice xa2 xn2 xc2) := cell_of_block HB2.out.2.1 rfl
 have u6 : w2.cell? ⟨w.heap.size, 6, none⟩ = some (.slice xa3 xn3 xc3) := cell_of_block HB2.out.2.1 rfl
 have u7 : w2.cell? ⟨w.heap.size, 7, none⟩ = some (.slice xa4 xn4 xc4) := cell_of_block HB2.out.2.1 rfl
 have v0 : w2.cell? ⟨w.heap.size + 1, 0, none⟩ = some (.slice ya xn yc) := cell_of_block HB2.out.2.2 rfl
 have v1 : w2.cell? ⟨w.heap.size + 1, 1, none⟩ = some (.int .u16 (t : Int)) := cell_of_block HB2.out.2.2 rfl
 have v2 : w2.cell? ⟨w.heap.size + 1, 2, none⟩ = some (.int .u16 (cl : Int)) := cell_of_block HB2.out.2.2 rfl
 have v3 : w2.cell? ⟨w.heap.size + 1, 3, none⟩ = some (.int .u32 (tt : Int)) := cell_of_block HB2.out.2.2 rfl
 have v4 : w2.cell? ⟨w.heap.size + 1, 4, none⟩ = some (.slice ya1 yn1 yc1) := cell_of_block HB2.out.2.2 rfl
 have v5 : w2.cell? ⟨w.heap.size + 1, 5, none⟩ = some (.slice ya2 yn2 yc2) := cell_of_block HB2.out.2.2 rfl
 have v6 : w2.cell? ⟨w.heap.size + 1, 6, none⟩ = some (.slice ya3 yn3 yc3) := cell_of_block HB2.out.2.2 rfl
 have v7 : w2.cell? ⟨w.heap.size + 1, 7, none⟩ = some (.slice ya4 yn4 yc4) := cell_of_block HB2.out.2.2 rfl
 go_wp2_with fail
 refine (KD _ HB2.out.1).out.mono ?_
 rintro e w3 ⟨rfl, hb3⟩
 go_wp2
 go_ret
 exact ⟨rfl, HB2.out.1.trans (hb3.out.mono HB2.out.1.size)⟩
set_option maxHeartbeats 2000000 in
theorem sames34 (a b : Option Addr) (n c d : Nat) (rs : List Rec) (w : World) (h1 : RdR w a rs) (h2 : RdR w b rs) (hl : rs.length = n) (hn : n <= 9223372036854775807) : Sames 46 w (.slice a n c) (.slice b n d) := by
 intro W hW
 have HX : Hid (RdR W a rs) := h1.below hW
 have HY : Hid (RdR W b rs) := h2.below hW
 have HLs : Hid (rs.length = n) := hl
 clear h1 h2 hW hl
 go_enter Tryz.func46, Tryz.ntmps46
 go_wp2_with fail
 go_loopw [5] (fun y wr => ∃ k : Nat, k <= n /\ y = .int .i64 (k : Int) /\ Hid (Below W.heap.size W wr)) (fun y _ => n - (intOf y).toNat)
 case atStart => exact ⟨0, by omega, rfl, Below.refl _ _⟩
 case round =>
   obtain ⟨k, hk, rfl, HB⟩ := hrel
   by_cases hlt : k < n
   · have hlt' : (k : Int) < (n : Int) := by omega
     have hks : k < rs.length := by rw [HLs.out]; exact hlt
     obtain ⟨b1, o1, rfl, q1, x, rx, ok1⟩ := (HX.out.below HB.out).at k hks
     obtain ⟨b2, o2, rfl, q2, y, ry, ok2⟩ := (HY.out.below HB.out).at k hks
     obtain ⟨r, hr⟩ : ∃ r, r = rs[k] := ⟨_, rfl⟩
     rw [<- hr] at rx ry ok1 ok2
     have KL : ∀ V, Below wr.heap.size wr V -> Hid (Calls Tryz.prog 74 #[.agg (recCells x r).toArray, .agg (recCells y r).toArray] V fun e w' => e = .returned (.bool true) /\ Below V.heap.size V w') := fun V hb => samer45 x y r V (ok1.below hb) (ok2.below hb)
     clear hr ok1 ok2
     obtain ⟨⟨xa, xn, xc⟩, ⟨⟨xa1, xn1, xc1⟩, ⟨xa2, xn2, xc2⟩, ⟨xa3, xn3, xc3⟩, ⟨xa4, xn4, xc4⟩⟩⟩ := x
     obtain ⟨⟨ya, yn, yc⟩, ⟨⟨ya1, yn1, yc1⟩, ⟨ya2, yn2, yc2⟩, ⟨ya3, yn3, yc3⟩, ⟨ya4, yn4, yc4⟩⟩⟩ := y
     obtain ⟨ow, t, cl, tt, dd⟩ := r
     have KL' : ∀ V, Below wr.heap.size wr V -> Hid (Calls Tryz.prog 74 #[.agg #[.slice xa xn xc, .int .u16 (t : Int), .int .u16 (cl : Int), .int .u32 (tt : Int), .slice xa1 xn1 xc1, .slice xa2 xn2 xc2, .slice xa3 xn3 xc3, .slice xa4 xn4 xc4], .agg #[.slice ya yn yc, .int .u16 (t : Int), .int .u16 (cl : Int), .int .u32 (tt : Int), .slice ya1 yn1 yc1, .slice ya2 yn2 yc2, .slice ya3 yn3 yc3, .slice ya4 yn4 yc4]] V fun e w' => e = .returned (.bool true) /\ Below V.heap.size V w') := KL
     have KS : ∀ V, Below wr.heap.size wr V -> V.cell? ⟨b1, o1 + k * 8, none⟩ = some (.slice xa xn xc) /\ V.cell? ⟨b1, o1 + k * 8 + 1, none⟩ = some (.int .u16 (t : Int)) /\ V.cell? ⟨b1, o1 + k * 8 + 2, none⟩ = some (.int .u16 (cl : Int)) /\ V.cell? ⟨b1, o1 + k * 8 + 3, none⟩ = some (.int .u32 (tt : Int)) /\ V.cell? ⟨b1, o1 + k * 8 + 4, none⟩ = some (.slice xa1 xn1 xc1) /\ V.cell? ⟨b1, o1 + k * 8 + 5, none⟩ = some (.slice xa2 xn2 xc2) /\ V.cell? ⟨b1, o1 + k * 8 + 6, none⟩ = some (.slice xa3 xn3 xc3) /\ V.cell? ⟨b1, o1 + k * 8 + 7, none⟩ = some (.slice xa4 xn4 xc4) /\ V.cell? ⟨b2, o2 + k * 8, none⟩ = some (.slice ya yn yc) /\ V.cell? ⟨b2, o2 + k * 8 + 1, none⟩ = some (.int .u16 (t : Int)) /\ V.cell? ⟨b2, o2 + k * 8 + 2, none⟩ = some (.int .u16 (cl : Int)) /\ V.cell? ⟨b2, o2 + k * 8 + 3, none⟩ = some (.int .u32 (tt : Int)) /\ V.cell? ⟨b2, o2 + k * 8 + 4, none⟩ = some (.slice ya1 yn1 yc1) /\ V.cell? ⟨b2, o2 + k * 8 + 5, none⟩ = some (.slice ya2 yn2 yc2) /\ V.cell? ⟨b2, o2 + k * 8 + 6, none⟩ = some (.slice ya3 yn3 yc3) /\ V.cell? ⟨b2, o2 + k * 8 + 7, none⟩ = some (.slice ya4 yn4 yc4) := fun V hb => ⟨(hb.cell (p := ⟨_, _, none⟩) q1).trans (rx 0 (by omega)), (hb.cell (p := ⟨_, _, none⟩) q1).trans (rx 1 (by omega)), (hb.cell (p := ⟨_, _, none⟩) q1).trans (rx 2 (by omega)), (hb.cell (p := ⟨_, _, none⟩) q1).trans (rx 3 (by omega)), (hb.cell (p := ⟨_, _, none⟩) q1).trans (rx 4 (by omega)), (hb.cell (p := ⟨_, _, none⟩) q1).trans (rx 5 (by omega)), (hb.cell (p := ⟨_, _, none⟩) q1).trans (rx 6 (by omega)), (hb.cell (p := ⟨_, _, none⟩) q1).trans (rx 7 (by omega)), (hb.cell (p := ⟨_, _, none⟩) q2).trans (ry 0 (by omega)), (hb.cell (p := ⟨_, _, none⟩) q2).trans (ry 1 (by omega)), (hb.cell (p := ⟨_, _, none⟩) q2).trans (ry 2 (by omega)), (hb.cell (p := ⟨_, _, none⟩) q2).trans (ry 3 (by omega)), (hb.cell (p := ⟨_, _, none⟩) q2).trans (ry 4 (by omega)), (hb.cell (p := ⟨_, _, none⟩) q2).trans (ry 5 (by omega)), (hb.cell (p := ⟨_, _, none⟩) q2).trans (ry 6 (by omega)), (hb.cell (p := ⟨_, _, none⟩) q2).trans (ry 7 (by omega))⟩
     clear KL rx ry
     go_wp2_with fail
     go_region_held3 (fun V => V.cell? ⟨b1, o1 + k * 8, none⟩ = some (.slice xa xn xc) /\ V.cell? ⟨b1, o1 + k * 8 + 1, none⟩ = some (.int .u16 (t : Int)) /\ V.cell? ⟨b1, o1 + k * 8 + 2, none⟩ = some (.int .u16 (cl : Int)) /\ V.cell? ⟨b1, o1 + k * 8 + 3, none⟩ = some (.int .u32 (tt : Int)) /\ V.cell? ⟨b1, o1 + k * 8 + 4, none⟩ = some (.slice xa1 xn1 xc1) /\ V.cell? ⟨b1, o1 + k * 8 + 5, none⟩ = some (.slice xa2 xn2 xc2) /\ V.cell? ⟨b1, o1 + k * 8 + 6, none⟩ = some (.slice xa3 xn3 xc3) /\ V.cell? ⟨b1, o1 + k * 8 + 7, none⟩ = some (.slice xa4 xn4 xc4) /\ V.cell? ⟨b2, o2 + k * 8, none⟩ = some (.slice ya yn yc) /\ V.cell? ⟨b2, o2 + k * 8 + 1, none⟩ = some (.int .u16 (t : Int)) /\ V.cell? ⟨b2, o2 + k * 8 + 2, none⟩ = some (.int .u16 (cl : Int)) /\ V.cell? ⟨b2, o2 + k * 8 + 3, none⟩ = some (.int .u32 (tt : Int)) /\ V.cell? ⟨b2, o2 + k * 8 + 4, none⟩ = some (.slice ya1 yn1 yc1) /\ V.cell? ⟨b2, o2 + k * 8 + 5, none⟩ = some (.slice ya2 yn2 yc2) /\ V.cell? ⟨b2, o2 + k * 8 + 6, none⟩ = some (.slice ya3 yn3 yc3) /\ V.cell? ⟨b2, o2 + k * 8 + 7, none⟩ = some (.slice ya4 yn4 yc4)) (first | exact KS _ HBw8.out | exact KS _ (Below.refl wr.heap.size wr).drew | exact KS _ (Below.refl wr.heap.size wr) | exact KS _ HBw8.out.drew) (first
       | (go_at_call 74; refine Calls.mono (KL' _ ?hb).out ?_; (case hb => first | exact (Below.refl wr.heap.size wr).drew | exact Below.refl wr.heap.size wr); rintro e w8 ⟨rfl, Hw8⟩; have HBw8 : Hid (Below wr.heap.size wr w8) := by first | exact (Below.refl wr.heap.size wr).drew.trans Hw8 | exact Hw8)
       | fail)
     all_goals go_wp2
     all_goals exact ⟨⟨k + 1, by omega, by go_num, HB.out.trans (HBw8.out.mono HB.out.size)⟩, by simp [intOf]; omega⟩
   · obtain rfl : k = n := by omega
     go_wp2
     go_ret
     exact ⟨rfl, HB.out⟩
end Go.Proofs.YtkjnbgekaifdfaaGreat
namespace Go.Proofs.YtkjnbgekaifdfaaGreat
open Go.ChangeShapes Go.WideShapes Go.ChangeAt Go.RowKit
theorem put3 {w : World} {g : Nat} {a b c : Value} {t : TypeId} (h : w.heap[g]? = some (.cells #[a, b, c] t)) (x y z : Value) : (((w.setCell ⟨g, 0, none⟩ x).setCell ⟨g, 1, none⟩ y).setCell ⟨g, 2, none⟩ z).heap[g]? = some (.cells #[x, y, z] t) :=
 heap_set (heap_set (heap_set h 0 x) 1 y) 2 z
end Go.Proofs.YtkjnbgekaifdfaaGreat
namespace Go.Proofs.YtkjnbgekaifdfaaGreat
open Go.ChangeShapes Go.WideShapes Go.ChangeAt Go.RowKit
theorem put8 {w : World} {g : Nat} {v0 v1 v2 v3 v4 v5 v6 v7 : Value} {t : TypeId} (h : w.heap[g]? = some (.cells #[v0, v1, v2, v3, v4, v5, v6, v7] t)) (x0 x1 x2 x3 x4 x5 x6 x7 : Value) : ((((((((w.setCell ⟨g, 0, none⟩ x0).setCell ⟨g, 1, none⟩ x1).setCell ⟨g, 2, none⟩ x2).setCell ⟨g, 3, none⟩ x3).setCell ⟨g, 4, none⟩ x4).setCell ⟨g, 5, none⟩ x5).setCell ⟨g, 6, none⟩ x6).setCell ⟨g, 7, none⟩ x7).heap[g]? = some (.cells #[x0, x1, x2, x3, x4, x5, x6, x7] t) :=
 by
 have h0 : (w.setCell ⟨g, 0, none⟩ x0).heap[g]? = some (.cells #[x0, v1, v2, v3, v4, v5, v6, v7] t) := heap_set h 0 x0
 have h1 : ((w.setCell ⟨g, 0, none⟩ x0).setCell ⟨g, 1, none⟩ x1).heap[g]? = some (.cells #[x0, x1, v2, v3, v4, v5, v6, v7] t) := heap_set h0 1 x1
 have h2 : (((w.setCell ⟨g, 0, none⟩ x0).setCell ⟨g, 1, none⟩ x1).setCell ⟨g, 2, none⟩ x2).heap[g]? = some (.cells #[x0, x1, x2, v3, v4, v5, v6, v7] t) := heap_set h1 2 x2
 have h3 : ((((w.setCell ⟨g, 0, none⟩ x0).setCell ⟨g, 1, none⟩ x1).setCell ⟨g, 2, none⟩ x2).setCell ⟨g, 3, none⟩ x3).heap[g]? = some (.cells #[x0, x1, x2, x3, v4, v5, v6, v7] t) := heap_set h2 3 x3
 have h4 : (((((w.setCell ⟨g, 0, none⟩ x0).setCell ⟨g, 1, none⟩ x1).setCell ⟨g, 2, none⟩ x2).setCell ⟨g, 3, none⟩ x3).setCell ⟨g, 4, none⟩ x4).heap[g]? = some (.cells #[x0, x1, x2, x3, x4, v5, v6, v7] t) := heap_set h3 4 x4
 have h5 : ((((((w.setCell ⟨g, 0, none⟩ x0).setCell ⟨g, 1, none⟩ x1).setCell ⟨g, 2, none⟩ x2).setCell ⟨g, 3, none⟩ x3).setCell ⟨g, 4, none⟩ x4).setCell ⟨g, 5, none⟩ x5).heap[g]? = some (.cells #[x0, x1, x2, x3, x4, x5, v6, v7] t) := heap_set h4 5 x5
 have h6 : (((((((w.setCell ⟨g, 0, none⟩ x0).setCell ⟨g, 1, none⟩ x1).setCell ⟨g, 2, none⟩ x2).setCell ⟨g, 3, none⟩ x3).setCell ⟨g, 4, none⟩ x4).setCell ⟨g, 5, none⟩ x5).setCell ⟨g, 6, none⟩ x6).heap[g]? = some (.cells #[x0, x1, x2, x3, x4, x5, x6, v7] t) := heap_set h5 6 x6
 have h7 : ((((((((w.setCell ⟨g, 0, none⟩ x0).setCell ⟨g, 1, none⟩ x1).setCell ⟨g, 2, none⟩ x2).setCell ⟨g, 3, none⟩ x3).setCell ⟨g, 4, none⟩ x4).setCell ⟨g, 5, none⟩ x5).setCell ⟨g, 6, none⟩ x6).setCell ⟨g, 7, none⟩ x7).heap[g]? = some (.cells #[x0, x1, x2, x3, x4, x5, x6, x7] t) := heap_set h6 7 x7
 exact h7
end Go.Proofs.YtkjnbgekaifdfaaGreat
namespace Go.Proofs.YtkjnbgekaifdfaaGreat
open Go.ChangeShapes Go.WideShapes Go.ChangeAt Go.RowKit Go.Maps
theorem gqn_k (zs : List Int) (p : Nat) : gqn zs p = (gnm zs p).bind fun o => (gkind zs o.2).map fun k => (⟨o.1, k.1.1, k.1.2⟩, k.2) := by
 unfold gqn gkind
 cases gnm zs p with
 | none => rfl
 | some o =>
   simp only [Option.bind_some]
   cases g16 zs o.2 with
   | none => rfl
   | some t =>
     simp only [Option.bind_some]
     cases g16 zs t.2 <;> rfl
theorem grec_k (zs : List Int) (p : Nat) : grec zs p = (gnm zs p).bind fun o => (gkind zs o.2).bind fun k => (g32 zs k.2).bind fun l => (g16 zs l.2).bind fun s => (gdat k.1.1 s.1 zs s.2).map fun d => (⟨o.1, k.1.1, k.1.2, l.1, d.1⟩, d.2) := by
 unfold grec gkind
 cases gnm zs p with
 | none => rfl
 | some o =>
   simp only [Option.bind_some]
   cases g16 zs o.2 with
   | none => rfl
   | some t =>
     simp only [Option.bind_some]
     cases g16 zs t.2 <;> rfl
theorem Owx1.go {B r : Nat} {w w' : World} {s : Sl} {nm : List ByteArray} (h : Owx1 B w s nm) (hg : w.grownBy w' (some r)) (hr : r < B) : Owx1 B w' s nm := h.kept hg hr
def RqP (r b o n c : Nat) (zs : List Int) (w : World) (x : Qn × Nat) (e : Ending) (w' : World) : Prop := ∃ s : Sl, e = .returned (.agg #[.slice s.a s.n s.c, .int .u16 x.1.ty, .int .u16 x.1.cl]) /\ Hid (Rdr w' r (some ⟨b, o, none⟩) n c zs x.2 /\ Owx1 w.heap.size w' s x.1.nm /\ w.grownBy w' (some r))
theorem Rdr.blt {w : World} {r b o n c p : Nat} {zs : List Int} (h : Rdr w r (some ⟨b, o, none⟩) n c zs p) (h1 : 1 <= n) : b < w.heap.size := by
 rcases h.rd.1 with h0 | ⟨b', o', e', hb', _⟩
 · have := h.len; rw [h0] at this; simp at this; omega
 · cases e'; exact hb'
theorem Rdr.far {w w' : World} {r b o n c p R : Nat} {zs : List Int} (h : Rdr w r (some ⟨b, o, none⟩) n c zs p) (h1 : 1 <= n) (hg : w.grownBy w' (some R)) (hr : r < R) (hb : b < R) : Rdr w' r (some ⟨b, o, none⟩) n c zs p :=
 h.app hg hb hr (box_lt h.box) (h.blt h1) (fun j e => by injection e with e; omega)
theorem grown_put3 (w : World) (g : Nat) (x y z : Value) : w.grownBy (((w.setCell ⟨g, 0, none⟩ x).setCell ⟨g, 1, none⟩ y).setCell ⟨g, 2, none⟩ z) (some g) :=
 grown_trans (grown_trans (grown_set w g 0 _) (grown_set _ g 1 _)) (grown_set _ g 2 _)
set_option maxHeartbeats 1000000 in
theorem rqn_yes (r b o n c : Nat) (zs : List Int) (p : Nat) (x : Qn × Nat) (w : World) (h : Rdr w r (some ⟨b, o, none⟩) n c zs p) (h1 : 1 <= n) (hx : gqn zs p = some x) :
   Calls Tryz.prog 58 #[.pointer (some ⟨r, 0, none⟩)] w (RqP r b o n c zs w x) := by
 rw [gqn_k] at hx
 simp only [Option.bind_eq_some_iff, Option.map_eq_some_iff] at hx
 obtain ⟨nn, ho, k, hk, rfl⟩ := hx
 have K1 : Hid (∀ W, Rdr W r (some ⟨b, o, none⟩) n c zs p -> Calls Tryz.prog 89 #[.pointer (some ⟨r, 0, none⟩)] W fun e w' => ∃ s : Sl, e = .returned (.slice s.a s.n s.c) /\ Hid (Rdr w' r (some ⟨b, o, none⟩) n c zs nn.2 /\ Owx1 W.heap.size w' s nn.1 /\ W.grownBy w' (some r))) := fun W hW => rnm_yes r (some ⟨b, o, none⟩) n c zs p nn W hW ho
 have K2 : Hid (∀ W, Rdr W r (some ⟨b, o, none⟩) n c zs nn.2 -> Calls Tryz.prog 90 #[.pointer (some ⟨r, 0, none⟩)] W fun e w' => e = .returned (.tuple #[.int .u16 k.1.1, .int .u16 k.1.2]) /\ Hid (Rdr w' r (some ⟨b, o, none⟩) n c zs k.2 /\ W.grownBy w' (some r))) := fun W hW => rkind_yes r (some ⟨b, o, none⟩) n c zs nn.2 k W hW hk
 have hrw := box_lt h.box
 have hbw := h.blt h1
 obtain ⟨n1, n2⟩ := nn
 obtain ⟨⟨k1, k2⟩, k3⟩ := k
 simp only at K1 K2
 have hb0 : Below w.heap.size w (w.alloc (.cells #[.slice none 0 0, .int .u16 0, .int .u16 0] 55)) := newq_below _ _
 have HR0 := Lib.hid (h.below hb0)
 have HD0 : Hid ((w.alloc (.cells #[.slice none 0 0, .int .u16 0, .int .u16 0] 55)).heap[w.heap.size]? = some (.cells #[.slice none 0 0, .int .u16 0, .int .u16 0] 55)) := heap_alloc_new _ _
 have HB0 := Lib.hid hb0
 obtain ⟨R, hR⟩ : ∃ R, R = w.heap.size := ⟨_, rfl⟩
 have HRR := Lib.hid hR
 rw [<- hR] at HD0 hrw hbw
 clear h ho hk hb0
 go_enter Tryz.func58, Tryz.ntmps58
 go_wp2_with fail
 simp only [<- hR]
 generalize w.alloc (.cells #[.slice none 0 0, .int .u16 0, .int .u16 0] 55) = w0 at *
 clear hR
 refine (K1.out w0 HR0.out).mono ?_
 rintro e1 w1 ⟨s1, rfl, H1⟩
 go_wp2_with fail
 refine (K2.out w1 H1.out.1).mono ?_
 rintro e2 w2 ⟨rfl, H2⟩
 have HG2 : Hid (w0.grownBy w2 (some r)) := grown_trans H1.out.2.2 H2.out.2
 have HD2 : Hid (w2.heap[R]? = some (.cells #[.slice none 0 0, .int .u16 0, .int .u16 0] 55)) := (HG2.out.block R (box_lt HD0.out) (fun e => by injection e with e; omega)).trans HD0.out
 have HO2 : Hid (Owx1 w0.heap.size w2 s1 n1) := H1.out.2.1.go H2.out.2 (by have := box_lt HD0.out; omega)
 have HR2 := Lib.hid H2.out.1
 have HL0 := Lib.hid (box_lt HD0.out)
 clear H1 H2 HD0 HR0 K1 K2
 have z0 : w2.cell? ⟨R, 0, none⟩ = some (.slice none 0 0) := box_cell HD2.out 0 _ rfl
 have z1 : w2.cell? ⟨R, 1, none⟩ = some (.int .u16 0) := box_cell HD2.out 1 _ rfl
 have z2 : w2.cell? ⟨R, 2, none⟩ = some (.int .u16 0) := box_cell HD2.out 2 _ rfl
 have f0 := box_frozen HD2.out 0
 have f1 := box_frozen HD2.out 1
 have f2 := box_frozen HD2.out 2
 have hlt := box_lt HD2.out
 go_wp2_with fail
 have z8 : Hid ((((w2.setCell ⟨R, 0, none⟩ (.slice s1.a s1.n s1.c)).setCell ⟨R, 1, none⟩ (.int .u16 (k1 : Int))).setCell ⟨R, 2, none⟩ (.int .u16 (k2 : Int))).heap[R]? = some (.cells #[.slice s1.a s1.n s1.c, .int .u16 (k1 : Int), .int .u16 (k2 : Int)] 55)) := put3 HD2.out _ _ _
 have hg8 : w2.grownBy (((w2.setCell ⟨R, 0, none⟩ (.slice s1.a s1.n s1.c)).setCell ⟨R, 1, none⟩ (.int .u16 (k1 : Int))).setCell ⟨R, 2, none⟩ (.int .u16 (k2 : Int))) (some R) := grown_put3 _ _ _ _ _
 have HG8 := Lib.hid hg8
 clear hg8 z0 z1 z2 f0 f1 f2 hlt
 generalize (((w2.setCell ⟨R, 0, none⟩ (.slice s1.a s1.n s1.c)).setCell ⟨R, 1, none⟩ (.int .u16 (k1 : Int))).setCell ⟨R, 2, none⟩ (.int .u16 (k2 : Int))) = w8 at *
 have y0 := box_cell z8.out 0 _ rfl
 have y1 := box_cell z8.out 1 _ rfl
 have y2 := box_cell z8.out 2 _ rfl
 refine bodyPost_ret (v := .agg #[.slice s1.a s1.n s1.c, .int .u16 (k1 : Int), .int .u16 (k2 : Int)]) (by simp [results, Tryz.results58, go_sem, y0, y1, y2]) rfl ⟨s1, rfl, HR2.out.far h1 HG8.out hrw hbw, ?_, ?_⟩
 · exact (HO2.out.keep fun j h1 h2 h3 => HG8.out.block j (by omega) (fun e => by injection e with e; have := HL0.out; omega)).mono HB0.out.size
 · exact grown_apx (grown_trans (grown_of HB0.out) HG2.out) HG8.out (fun j e => by injection e with e; rw [<- e, HRR.out]; exact Nat.le_refl _)
set_option maxHeartbeats 1000000 in
theorem rqn_no (r : Nat) (a : Option Addr) (n c : Nat) (zs : List Int) (p : Nat) (w : World) (h : Rdr w r a n c zs p) (hx : gqn zs p = none) :
   Calls Tryz.prog 58 #[.pointer (some ⟨r, 0, none⟩)] w fun e w' => e = .panicked thrown /\ Hid (w.grownBy w' (some r)) := by
 rw [gqn_k] at hx
 have hb0 : Below w.heap.size w (w.alloc (.cells #[.slice none 0 0, .int .u16 0, .int .u16 0] 55)) := newq_below _ _
 have HR0 := Lib.hid (h.below hb0)
 have HB0 := Lib.hid hb0
 cases ho : gnm zs p with
 | none =>
   have K1 := Lib.hid (rnm_no r a n c zs p _ HR0.out ho)
   clear h hx hb0
   go_enter Tryz.func58, Tryz.ntmps58
   go_wp2_with fail
   refine K1.out.mono ?_
   rintro e w1 ⟨rfl, H1⟩
   go_wp2
   exact ⟨rfl, rfl, grown_trans (grown_of HB0.out) H1.out⟩
 | some nn =>
   rw [ho] at hx
   simp only [Option.bind_some, Option.map_eq_none_iff] at hx
   have K1 := Lib.hid (rnm_yes r a n c zs p nn _ HR0.out ho)
   have K2 : Hid (∀ W, Rdr W r a n c zs nn.2 -> Calls Tryz.prog 90 #[.pointer (some ⟨r, 0, none⟩)] W fun e w' => e = .panicked thrown /\ Hid (W.grownBy w' (some r))) := fun W hW => rkind_no r a n c zs nn.2 W hW hx
   clear h hx hb0 ho
   go_enter Tryz.func58, Tryz.ntmps58
   go_wp2_with fail
   refine K1.out.mono ?_
   rintro e w1 ⟨s1, rfl, H1⟩
   go_wp2_with fail
   refine (K2.out w1 H1.out.1).mono ?_
   rintro e w2 ⟨rfl, H2⟩
   go_wp2
   exact ⟨rfl, rfl, grown_trans (grown_of HB0.out) (grown_trans H1.out.2.2 H2.out)⟩
end Go.Proofs.YtkjnbgekaifdfaaGreat
