/- Texts laid together: Nxh Oca Ocb Occ Ocd Hg Hh Hi. -/
import Derived.Test.YtdeoembjfdbbkaaPrd
import Derived.LaidEqlPtr
import Derived.WalkSpells
import Derived.Deep.RegionHeld3
import Derived.Deep.RegionLaw
/- The program's names: their bytes, in room that was made ahead. -/
namespace Go.Proofs.Ytdeoembjfdbbkaa
open Go.ChangeShapes Go.WideShapes Go.ChangeAt Go.RowKit
set_option linter.unusedVariables false
set_option linter.unusedSimpArgs false


theorem src_bytes {w : World} {ao : Option Addr} {m c : Nat} {news : List Int} (hr : Rd w ao news) (hl : news.length = m) : Src Try.prog 1 27 (.slice ao m c) m (news.map (Value.int .u8)) w := by
  cases ao with
  | some x => exact Src.ofSlice w Try.underlying27 x m c _ (by simp [hl]) (rd_cells hr) (by intro u hu; simp at hu; obtain ⟨z, _, rfl⟩ := hu; rfl)
  | none =>
    have hn : news = [] := by
      rcases hr with ⟨rfl, _⟩ | ⟨b, o, h, _⟩
      · rfl
      · cases h
    subst hn
    subst hl
    exact Src.ofNil w Try.underlying27 c
theorem rd_all {w : World} {ao : Option Addr} {news : List Int} (hr : Rd w ao news) : ∀ z ∈ news, 0 ≤ z ∧ z ≤ 255 := by
  intro z hz
  obtain ⟨i, hi, rfl⟩ := List.getElem_of_mem hz
  have := hr.bd i
  rw [List.getD_eq_getElem?_getD, List.getElem?_eq_getElem hi] at this
  exact this
theorem wpList_append_fitB (w : World) {ops : Array Oper} {rest : List Oper} {o : Oper} {a : Act} {Q : Exit → Act → World → Prop} (hgd : o.guard = none) (s x : Operand)
    (ho : o.op = .call { callee := .builtin .append, args := #[s, x], argTypes := #[27, 27] }) (B : Nat) (v : Value) (n : Nat) (zs : List Int) (hs : a.eval s = v) (hown : Own B w v n zs)
    (ao : Option Addr) (m c : Nat) (news : List Int) (hx : a.eval x = .slice ao m c) (hr : Rd w ao news) (hl : news.length = m) (hb : n + m ≤ 140737488355328) (hB : B ≤ w.heap.size)
    (h : ∀ v' w' zs', Hid (Own B w' v' (n + m) zs') → Hid (zs'.take (n + m) = zs.take n ++ news) → w.grownBy w' v.ownBlock → Hid (n + m ≤ zs.length → zs'.length = zs.length) → wpList Try.prog ops Q rest (a.put o.dst v') w') : wpList Try.prog ops Q (o :: rest) a w := by
  refine wpList_append_row tyB w hgd s x 27 ho B v n (zs.map (Value.int .u8)) hs hown.toV (.slice ao m c) m (news.map (Value.int .u8)) hx (src_bytes hr hl) (by omega) (by simp only [maxLen]; omega) hB ?_
  intro v' w' xs' h1 h2 h3 h4
  obtain ⟨ys, rfl, hys⟩ := bytes_of xs' (h4.out.1 QB ⟨0, rfl, by omega, by omega⟩ (qb_map hown.all) (qb_map (rd_all hr)))
  refine h v' w' ys (h1.out.toOwn hys) ?_ h3 ?_
  · have h2' := h2.out
    rw [← List.map_take, ← List.map_take, ← List.map_append] at h2'
    exact int_inj h2'
  · have := h4.out.2
    rw [List.length_map, List.length_map] at this
    exact this
theorem wpList_append_fitS (w : World) {ops : Array Oper} {rest : List Oper} {o : Oper} {a : Act} {Q : Exit → Act → World → Prop} (hgd : o.guard = none) (s x : Operand)
    (ho : o.op = .call { callee := .builtin .append, args := #[s, x], argTypes := #[27, 9] }) (B : Nat) (v : Value) (n : Nat) (zs : List Int) (hs : a.eval s = v) (hown : Own B w v n zs)
    (t : ByteArray) (hx : a.eval x = .string t) (hb : n + t.size ≤ 140737488355328) (hB : B ≤ w.heap.size)
    (h : ∀ v' w' zs', Hid (Own B w' v' (n + t.size) zs') → Hid (zs'.take (n + t.size) = zs.take n ++ nums t) → w.grownBy w' v.ownBlock → Hid (n + t.size ≤ zs.length → zs'.length = zs.length) → wpList Try.prog ops Q rest (a.put o.dst v') w') : wpList Try.prog ops Q (o :: rest) a w := by
  refine wpList_append_row tyB w hgd s x 9 ho B v n (zs.map (Value.int .u8)) hs hown.toV (.string t) t.size (byteCells t) hx (Src.ofString w Try.underlying9 t) (by omega) (by simp only [maxLen]; omega) hB ?_
  intro v' w' xs' h1 h2 h3 h4
  obtain ⟨ys, rfl, hys⟩ := bytes_of xs' (h4.out.1 QB ⟨0, rfl, by omega, by omega⟩ (qb_map hown.all) (by rw [cells_nums]; exact qb_map (nums_all t)))
  refine h v' w' ys (h1.out.toOwn hys) ?_ h3 ?_
  · have h2' := h2.out
    rw [cells_nums, ← List.map_take, ← List.map_take, ← List.map_append] at h2'
    exact int_inj h2'
  · have := h4.out.2
    rw [List.length_map, List.length_map] at this
    exact this
set_option maxRecDepth 100000 in
set_option maxHeartbeats 2000000 in
theorem pbytes_room (a : Option Addr) (n c : Nat) (ss : List ByteArray) (w : World) (h : Nm w a n ss) :
    Calls Try.prog 80 #[.slice a n c] w fun e w' => ∃ v ys, e = .returned (.tuple #[v, .int .i64 (nbytes ss).2]) ∧ Hid (Own w.heap.size w' v (nbytes ss).1.length ys ∧ ys.take (nbytes ss).1.length = (nbytes ss).1 ∧ Below w.heap.size w w' ∧ ys.length ≤ 140737488355328) := by
  have KC : Hid (Calls Try.prog 42 #[.slice a n c] w fun e w' => e = .returned (.int .i64 (nck ss)) ∧ w' = w) := pm_check c h
  have HN : Hid (Nm w a n ss) := h
  have hn := h.n63
  have HL : Hid (ss.length = n) := h.len
  by_cases hk : nck ss = 0
  · rw [hk] at KC
    have hsm := nck_small hk
    have hp : nbytes ss = (nby ss ++ [0], 0) := by unfold nbytes; rw [if_pos hk]
    rw [hp]
    obtain ⟨T, hT0⟩ : ∃ T, nsz ss = T := ⟨_, rfl⟩
    have hT255 : T ≤ 255 := by rw [← hT0]; exact hsm.1
    have HSZ : Hid (∀ k, (nby (ss.take k)).length + 1 ≤ T) := fun k => by have := nby_len (ss.take k); have := nsz_le ss k; omega
    have HWZ : Hid ((nby ss).length + 1 = T) := by show _ = _; rw [nby_len, hT0]
    have KS : Hid (Calls Try.prog 66 #[.slice a n c] w fun e w' => e = .returned (.int .i64 T) ∧ w' = w) := by rw [← hT0]; exact psize_eq a n c ss w h.rd h.len (by have := h.sz; omega)
    have HLB : Hid (∀ s ∈ ss, s.size ≤ 63) := fun s hs => by
      have := hsm.2 s hs
      unfold chk at this
      split at this
      · omega
      · cases this
    clear h hk hp hsm hT0
    go_enter Try.func80, Try.ntmps80
    go_wp2_with fail
    refine KC.out.mono ?_
    rintro e w1 ⟨rfl, rfl⟩
    go_wp2_with fail
    refine KS.out.mono ?_
    rintro e w1 ⟨rfl, rfl⟩
    go_wp2_with (at_make; refine wpList_make_blk _ rfl _ _ rfl 0 T _ _ rfl rfl rfl rfl (by omega) (by omega) ?_)
    have HW0 : Hid (∃ ys, Own w1.heap.size (w1.alloc (.cells (Array.replicate T (Value.int .u8 0)) 5)) (.slice (some ⟨w1.heap.size, 0, none⟩) 0 T) 0 ys ∧ ys.take 0 = nby (ss.take 0) ∧ ys.length = T) := by
      refine ⟨List.replicate T 0, .inr ⟨w1.heap.size, by simp, Nat.le_refl _, ⟨(heap_alloc_new _ _).trans (by simp), ?_⟩, by simp, by unfold maxLen; simp; omega⟩, by simp [nby], by simp⟩
      intro z hz
      rw [List.eq_of_mem_replicate hz]
      omega
    have HB0 : Hid (Below w1.heap.size w1 (w1.alloc (.cells (Array.replicate T (Value.int .u8 0)) 5))) := (Below.refl _ _).alloc (Nat.le_refl _) _
    generalize w1.alloc (.cells (Array.replicate T (Value.int .u8 0)) 5) = wa at *
    go_loopw [5, 18] (fun v x wr => ∃ (k m : Nat), k ≤ n ∧ m + 1 ≤ T ∧ x = .int .i64 k ∧ Hid ((nby (ss.take k)).length = m) ∧ Hid (∃ ys, Own w1.heap.size wr v m ys ∧ ys.take m = nby (ss.take k) ∧ ys.length = T) ∧ Hid (Below w1.heap.size w1 wr)) (fun _ x _ => n - (intOf x).toNat)
    case atStart => exact ⟨0, 0, Nat.zero_le _, by have := HWZ.out; omega, rfl, rfl, HW0.out, HB0⟩
    case round =>
      obtain ⟨k, m, hkn, hm, rfl, HM, HW, HB⟩ := hrel
      clear HW0 HB0
      by_cases hlt : k < n
      · have hlt' : (k : Int) < (n : Int) := by omega
        have hks : k < ss.length := by rw [HL.out]; exact hlt
        obtain ⟨b, o, rfl, hb, hc⟩ := (HN.out.below HB.out).rd.at k hks
        have HCE : Hid (∀ W, Below w1.heap.size w1 W → W.cell? ⟨b, o + k, none⟩ = some (.string ss[k])) := by
          intro W hW
          obtain ⟨b', o', e, _, h2⟩ := (HN.out.below hW).rd.at k hks
          cases e
          exact h2
        have hsz := HLB.out _ (List.getElem_mem hks)
        have HT : Hid (nby (ss.take (k + 1)) = nby (ss.take k) ++ [(ss[k].size : Int)] ++ nums ss[k] ∧ (nby (ss.take (k + 1))).length = m + 1 + ss[k].size) := by
          have e : nby (ss.take (k + 1)) = nby (ss.take k) ++ [(ss[k].size : Int)] ++ nums ss[k] := by rw [take_snocT ss k hks, nby_snoc]
          exact ⟨e, by rw [e, List.length_append, List.length_append, HM.out, nums_len]; rfl⟩
        have hz2 := HSZ.out (k + 1)
        rw [HT.out.2] at hz2
        generalize ss[k] = s at *
        obtain ⟨ys, hO, hTk, hyl⟩ := HW.out
        have hnb : Below wr.heap.size wr (wr.alloc (.cells #[.int .u8 (s.size : Int)] 5)) := (Below.refl _ _).alloc (Nat.le_refl _) _
        have HO2 : Hid (Own w1.heap.size (wr.alloc (.cells #[.int .u8 (s.size : Int)] 5)) u5 m ys ∧ ys.take m = nby (ss.take k) ∧ ys.length = T) := ⟨hO.below hnb, hTk, hyl⟩
        have HR2 : Hid (Rd (wr.alloc (.cells #[.int .u8 (s.size : Int)] 5)) (some ⟨wr.heap.size, 0, none⟩) [(s.size : Int)]) := new_rd wr _ (by omega)
        have HNB : Hid (Below wr.heap.size wr (wr.alloc (.cells #[.int .u8 (s.size : Int)] 5))) := hnb
        clear hO hTk hnb hyl
        have hmod : (s.size : Int) % 256 = (s.size : Int) := by omega
        go_wp2_with (at_builtin; first
          | (refine wpList_append_fitB _ rfl _ _ rfl w1.heap.size _ m ys rfl HO2.out.1 (some ⟨wr.heap.size, 0, none⟩) 1 1 [(s.size : Int)] rfl HR2.out rfl (by omega) (Nat.le_trans HB.out.size HNB.out.size) ?_; intro v' w' ys' hO' hT' hG' hF'; have HB2 : Hid (Below w1.heap.size w1 w') := ((HB.out.trans (HNB.out.mono HB.out.size)).grown hG' (Nat.le_trans HB.out.size HNB.out.size) HO2.out.1.lt); have hc2 : w'.cell? ⟨b, o + k, none⟩ = some (.string s) := HCE.out _ HB2.out; clear HR2 hG')
          | (refine wpList_append_fitS _ rfl _ _ rfl w1.heap.size _ (m + 1) ys' rfl hO'.out s rfl (by omega) HB2.out.size ?_; intro v2 w2 ys2 hO2 hT2 hG2 hF2))
        refine ⟨⟨k + 1, m + 1 + s.size, by omega, hz2, by go_num, HT.out.2, ⟨ys2, hO2.out, ?_, ?_⟩, ?_⟩, by simp [intOf]; omega⟩
        · rw [hT2.out, hT'.out, HO2.out.2.1, HT.out.1]
        · rw [hF2.out (by rw [hF'.out (by rw [HO2.out.2.2]; omega), HO2.out.2.2]; omega), hF'.out (by rw [HO2.out.2.2]; omega), HO2.out.2.2]
        · exact HB2.out.grown hG2 HB2.out.size hO'.out.lt
      · have hge : (n : Int) ≤ (k : Int) := by omega
        have ek : ss.take k = ss := List.take_of_length_le (by rw [HL.out]; omega)
        obtain ⟨ys, hO, hTk, hyl⟩ := HW.out
        rw [ek] at hTk
        have HM2 : Hid ((nby ss).length = m) := by have := HM.out; rw [ek] at this; exact this
        have hnb : Below wr.heap.size wr (wr.alloc (.cells #[.int .u8 0] 5)) := (Below.refl _ _).alloc (Nat.le_refl _) _
        have HO2 : Hid (Own w1.heap.size (wr.alloc (.cells #[.int .u8 0] 5)) u5 m ys ∧ ys.take m = nby ss ∧ ys.length = T) := ⟨hO.below hnb, hTk, hyl⟩
        have HR2 : Hid (Rd (wr.alloc (.cells #[.int .u8 0] 5)) (some ⟨wr.heap.size, 0, none⟩) [0]) := new_rd wr _ (by omega)
        have HNB : Hid (Below wr.heap.size wr (wr.alloc (.cells #[.int .u8 0] 5))) := hnb
        clear hO hTk hnb ek hyl
        go_wp2_with (at_builtin; refine wpList_append_fitB _ rfl _ _ rfl w1.heap.size _ m ys rfl HO2.out.1 (some ⟨wr.heap.size, 0, none⟩) 1 1 [0] rfl HR2.out rfl (by omega) (Nat.le_trans HB.out.size HNB.out.size) ?_; intro v' w' ys' hO' hT' hG' hF'; have HB2 : Hid (Below w1.heap.size w1 w') := ((HB.out.trans (HNB.out.mono HB.out.size)).grown hG' (Nat.le_trans HB.out.size HNB.out.size) HO2.out.1.lt); clear hG')
        go_ret2
        refine ⟨v', ys', rfl, ?_, ?_, HB2.out, ?_⟩
        · rw [List.length_append, HM2.out]; exact hO'.out
        · rw [List.length_append, HM2.out]; exact hT'.out.trans (by rw [HO2.out.2.1])
        · rw [hF'.out (by rw [HO2.out.2.2]; omega), HO2.out.2.2]; omega
  · have hp : nbytes ss = ([], nck ss) := by unfold nbytes; rw [if_neg hk]
    rw [hp]
    generalize nck ss = q at *
    have hq : (q != 0) = true := bne_iff_ne.2 hk
    clear h hk hp
    go_enter Try.func80, Try.ntmps80
    go_wp2_with fail
    refine KC.out.mono ?_
    rintro e w1 ⟨rfl, rfl⟩
    go_wp2
    go_ret2
    exact ⟨.slice none 0 0, [], rfl, .inl ⟨rfl, rfl, rfl⟩, rfl, Below.refl _ _, Nat.zero_le _⟩
theorem pbytes_any (a : Option Addr) (n c : Nat) (ss : List ByteArray) (w : World) (h : Nm w a n ss) : Calls Try.prog 80 #[.slice a n c] w (fun e w' => ∃ v ys, e = .returned (.tuple #[v, .int .i64 (nbytes ss).2]) ∧ Hid (Own w.heap.size w' v (nbytes ss).1.length ys ∧ ys.take (nbytes ss).1.length = (nbytes ss).1 ∧ Below w.heap.size w w')) :=
  (pbytes_room a n c ss w h).mono fun e w' ⟨v, ys, h1, h2⟩ => ⟨v, ys, h1, h2.out.1, h2.out.2.1, h2.out.2.2.1⟩
end Go.Proofs.Ytdeoembjfdbbkaa
/- The reader of octets, for names. -/
namespace Go.Proofs.Ytdeoembjfdbbkaa
open Go.ChangeShapes Go.WideShapes Go.ChangeAt Go.RowKit
set_option linter.unusedVariables false
set_option linter.unusedSimpArgs false


theorem neq_ptr_same (a : Addr) (w : World) : (binOp .neq 90 (.pointer (some a)) (.pointer (some a))).run Try.prog w = .ok (.bool false) w := by
  obtain ⟨j, hi⟩ : ∃ j, Try.prog.info? 111 = some j := Option.isSome_iff_exists.1 (by kernel_rfl)
  have h : ∀ d : Nat, (Op.equalIn (d + 1) 90 (.pointer (some a)) (.pointer (some a))).run Try.prog w = .ok true w := fun d => by
    simp [Op.equalIn, run_underlying Try.underlying90, sizeOf, typeInfo, hi, run_sameAddr_same]
  simp only [binOp]
  simp [Op.equal, Op.maxDepth, h 9999]
theorem view0 (a b c d : Value) (w : World) : (Instr.field 117 (.agg #[a, b, c, d]) 0).run Try.prog w = .ok a w := by kernel_rfl
theorem view1 (a b c d : Value) (w : World) : (Instr.field 117 (.agg #[a, b, c, d]) 1).run Try.prog w = .ok b w := by kernel_rfl
theorem view2 (a b c d : Value) (w : World) : (Instr.field 117 (.agg #[a, b, c, d]) 2).run Try.prog w = .ok c w := by kernel_rfl
theorem view3 (a b c d : Value) (w : World) : (Instr.field 117 (.agg #[a, b, c, d]) 3).run Try.prog w = .ok d w := by kernel_rfl
theorem slice_is_nil (a : Option Addr) (n c : Nat) (w : World) : (binOp .eql 27 (.slice a n c) (.slice none 0 0)).run Try.prog w = .ok (.bool a.isNone) w := Lib.run_eql_slice_nil w _ _ _ _ _ _ _ Try.underlying27
attribute [local go_sem] view0 view1 view2 view3 slice_is_nil

set_option maxRecDepth 100000 in
set_option maxHeartbeats 400000 in
theorem number_any (a : Option Addr) (len cap : Nat) (zs : List Int) (w : World) (hr : Rd w a zs) (hl : zs.length = len) (hm : len ≤ 4) :
    Calls Try.prog 102 #[.slice a len cap] w fun e w' => e = .returned (.int .u32 (val zs)) ∧ w' = w := by
  have HL : Hid (zs.length = len) := hl
  have HR : Hid (Rd w a zs) := hr
  clear hl hr
  go_enter Try.func102, Try.ntmps102
  go_wp2
  go_loop [3, 8] (fun n i => ∃ k : Nat, k ≤ len ∧ i = .int .i64 k ∧ n = .int .u32 (val (zs.take k))) (fun _ i => len - (intOf i).toNat)
  case atStart => exact ⟨0, Nat.zero_le _, rfl, rfl⟩
  case round =>
    obtain ⟨k, hk, rfl, rfl⟩ := hrel
    by_cases hlt : k < len
    · rcases HR.out.1 with h1 | ⟨b, o, rfl, h1, h2⟩
      · have := HL.out; subst h1; simp at this; omega
      · have hc := h2 k (by rw [HL.out]; exact hlt)
        have hb := HR.out.bd k
        have hv := val_small zs HR.out.2 k (by omega)
        clear h2
        have hlt' : (k : Int) < (len : Int) := by omega
        go_wp2
        go_round
        case rel =>
          refine ⟨k + 1, by omega, by go_num, ?_⟩
          rw [take_snoc zs k (by rw [HL.out]; exact hlt), val_snoc, ← List.getD_eq_getElem?_getD, u32_join _ _ hv.1 hv.2 hb.1 hb.2]
        case measure => simp [intOf]; omega
    · obtain rfl : k = len := by omega
      go_wp2
      go_ret
      have : zs.take k = zs := List.take_of_length_le (by rw [HL.out]; exact Nat.le_refl _)
      rw [this]
      exact ⟨rfl, rfl⟩
theorem number_none (w : World) : Calls Try.prog 102 #[.slice none 0 0] w fun e w' => e = .returned (.int .u32 0) ∧ w' = w :=
  number_any none 0 0 [] w ⟨.inl rfl, by simp⟩ rfl (by omega)
end Go.Proofs.Ytdeoembjfdbbkaa
/- The reader of octets, for names. -/
namespace Go.Proofs.Ytdeoembjfdbbkaa
open Go.ChangeShapes Go.WideShapes Go.ChangeAt Go.RowKit
set_option linter.unusedVariables false
set_option linter.unusedSimpArgs false
attribute [local go_sem] view0 view1 view2 view3 slice_is_nil


/-- A reader's block: itself, its bytes, its place, whether it is bad. -/
def RBlk (w : World) (g : Nat) (t : Value) (k : Int) (bad : Bool) : Prop :=
  w.heap[g]? = some (.cells #[.pointer (some ⟨g, 0, none⟩), t, .int .i64 k, .bool bad] 111 (0, 0))
theorem RBlk.lt {w : World} {g : Nat} {t : Value} {k : Int} {bad : Bool} (h : RBlk w g t k bad) : g < w.heap.size := (Array.getElem?_eq_some_iff.1 h).1
theorem RBlk.c0 {w : World} {g : Nat} {t : Value} {k : Int} {bad : Bool} (h : RBlk w g t k bad) : w.cell? ⟨g, 0, none⟩ = some (.pointer (some ⟨g, 0, none⟩)) := by
  have h' : w.heap[g]? = _ := h
  simp [World.cell?, h']
theorem RBlk.c1 {w : World} {g : Nat} {t : Value} {k : Int} {bad : Bool} (h : RBlk w g t k bad) : w.cell? ⟨g, 1, none⟩ = some t := by
  have h' : w.heap[g]? = _ := h
  simp [World.cell?, h']
theorem RBlk.c2 {w : World} {g : Nat} {t : Value} {k : Int} {bad : Bool} (h : RBlk w g t k bad) : w.cell? ⟨g, 2, none⟩ = some (.int .i64 k) := by
  have h' : w.heap[g]? = _ := h
  simp [World.cell?, h']
theorem RBlk.c3 {w : World} {g : Nat} {t : Value} {k : Int} {bad : Bool} (h : RBlk w g t k bad) : w.cell? ⟨g, 3, none⟩ = some (.bool bad) := by
  have h' : w.heap[g]? = _ := h
  simp [World.cell?, h']
theorem RBlk.fz {w : World} {g : Nat} {t : Value} {k : Int} {bad : Bool} (h : RBlk w g t k bad) (i : Nat) : w.frozen? ⟨g, i, none⟩ = false := by
  have h' : w.heap[g]? = _ := h
  simp [World.frozen?, h']
theorem RBlk.same {w w' : World} {g : Nat} {t : Value} {k : Int} {bad : Bool} (h : RBlk w g t k bad) (hb : w'.heap[g]? = w.heap[g]?) : RBlk w' g t k bad := hb.trans h
theorem RBlk.at {w : World} {g : Nat} {t : Value} {k : Int} {bad : Bool} (h : RBlk w g t k bad) (k' : Int) : RBlk (w.setCell ⟨g, 2, none⟩ (.int .i64 k')) g t k' bad := heap_set h 2 _
set_option maxRecDepth 100000 in
set_option maxHeartbeats 400000 in
theorem piece_in (a : Option Addr) (len cap at_ n : Nat) (zs : List Int) (w : World) (hr : Rd w a zs) (hl : zs.length = len) (hc : len ≤ cap) (hm : len ≤ 140737488355328) (hn : at_ + n ≤ len) :
    Calls Try.prog 103 #[.slice a len cap, .int .i64 at_, .int .i64 n] w fun e w' => (∃ a', e = .returned (.tuple #[.slice a' n (cap - at_), .bool true]) ∧ Hid ((∀ W, Rd W a zs → Rd W a' ((zs.drop at_).take n)) ∧ (a' = none → a = none))) ∧ w' = w := by
  have HL : Hid (zs.length = len) := hl
  have HR : Hid (Rd w a zs) := hr
  clear hl hr
  have h1 : ¬ (at_ : Int) < 0 := by omega
  have h2 : (at_ : Int) ≤ (len : Int) := by omega
  have h3 : ¬ (n : Int) < 0 := by omega
  have h4 : (n : Int) ≤ (len : Int) - (at_ : Int) := by omega
  go_enter Try.func103, Try.ntmps103
  go_wp2
  · go_ret2
    exact ⟨⟨_, rfl, fun W hW => hW.cut at_ n (by rw [HL.out]; exact hn) (fun h b o e => absurd h (by omega)), fun e => e⟩, rfl⟩
  · go_ret2
    exact ⟨⟨_, rfl, fun W hW => hW.cut at_ n (by rw [HL.out]; exact hn) (fun h b o e => by subst e; simp [Addr.add]), fun e => Option.map_eq_none_iff.1 e⟩, rfl⟩
set_option maxRecDepth 100000 in
set_option maxHeartbeats 400000 in
theorem piece_out (a : Option Addr) (len cap : Nat) (at_ n : Int) (w : World) (hm : len ≤ 140737488355328)
    (h : at_ < 0 ∨ (0 ≤ at_ ∧ (len : Int) < at_) ∨ (0 ≤ at_ ∧ at_ ≤ (len : Int) ∧ n < 0) ∨ (0 ≤ at_ ∧ at_ ≤ (len : Int) ∧ 0 ≤ n ∧ (len : Int) - at_ < n)) :
    Calls Try.prog 103 #[.slice a len cap, .int .i64 at_, .int .i64 n] w fun e w' => e = .returned (.tuple #[.slice none 0 0, .bool false]) ∧ w' = w := by
  rcases h with h | ⟨h0, h⟩ | ⟨h0, h1, h⟩ | ⟨h0, h1, h2, h⟩
  · go_enter Try.func103, Try.ntmps103
    go_wp2
    go_ret2
    exact ⟨rfl, rfl⟩
  · go_enter Try.func103, Try.ntmps103
    go_wp2
    go_ret2
    exact ⟨rfl, rfl⟩
  · go_enter Try.func103, Try.ntmps103
    go_wp2
    go_ret2
    exact ⟨rfl, rfl⟩
  · go_enter Try.func103, Try.ntmps103
    go_wp2
    go_ret2
    exact ⟨rfl, rfl⟩
/-- The text lies elsewhere than the reader. -/
def Off (a : Option Addr) (g : Nat) : Prop := ∀ b o, a = some ⟨b, o, none⟩ → b ≠ g
theorem Rd.grown {w w' : World} {a : Option Addr} {zs : List Int} {g : Nat} (h : Rd w a zs) (hg : w.grownBy w' (some g)) (ho : Off a g) : Rd w' a zs := by
  refine ⟨?_, h.2⟩
  rcases h.1 with h1 | ⟨b, o, rfl, h1, h2⟩
  · exact .inl h1
  · refine .inr ⟨b, o, rfl, Nat.lt_of_lt_of_le h1 hg.size, fun i hi => ?_⟩
    rw [← h2 i hi]
    exact World.cell?_of_block (w := w) (a := ⟨b, o + i, none⟩) (hg.block b h1 (fun e => ho b o rfl (Option.some.inj e)))
/-- The world in which a good reader has moved: its place is set, a new block is there for the answer. -/
theorem moved (g : Nat) (t : Value) (k k' : Int) (w : World) (hb : RBlk w g t k false) (cs : Array Value) :
    RBlk ((w.setCell ⟨g, 2, none⟩ (.int .i64 k')).alloc (.cells cs 117)) g t k' false ∧ ((w.setCell ⟨g, 2, none⟩ (.int .i64 k')).alloc (.cells cs 117)).heap[w.heap.size]? = some (.cells cs 117 (0, 0)) ∧
    w.grownBy ((w.setCell ⟨g, 2, none⟩ (.int .i64 k')).alloc (.cells cs 117)) (some g) ∧ ((w.setCell ⟨g, 2, none⟩ (.int .i64 k')).alloc (.cells cs 117)).heap.size = w.heap.size + 1 := by
  have hsz : (w.setCell ⟨g, 2, none⟩ (.int .i64 k')).heap.size = w.heap.size := by simp [World.setCell]
  have hold : ∀ j, j < w.heap.size → ((w.setCell ⟨g, 2, none⟩ (.int .i64 k')).alloc (.cells cs 117)).heap[j]? = (w.setCell ⟨g, 2, none⟩ (.int .i64 k')).heap[j]? := fun j hj => Below.heap_alloc _ _ j (by rw [hsz]; exact hj)
  refine ⟨(hb.at k').same (hold g hb.lt), ?_, ⟨rfl, rfl, rfl, by simp [hsz], fun j hj hne => ?_⟩, by simp [hsz]⟩
  · have := heap_alloc_new (w.setCell ⟨g, 2, none⟩ (.int .i64 k')) (.cells cs 117)
    rw [hsz] at this
    exact this
  · rw [hold j hj]
    exact Below.heap_setCell _ _ _ j (fun e => hne (by rw [e]))
theorem cells4 {w : World} {s : Nat} {a b c d : Value} {t : TypeId} (h : w.heap[s]? = some (.cells #[a, b, c, d] t (0, 0))) :
    w.cell? ⟨s, 0, none⟩ = some a ∧ w.cell? ⟨s, 1, none⟩ = some b ∧ w.cell? ⟨s, 2, none⟩ = some c ∧ w.cell? ⟨s, 3, none⟩ = some d ∧ ∀ i, w.frozen? ⟨s, i, none⟩ = false := by
  simp [World.cell?, World.frozen?, h]
/-- Behind what is written into the new block nothing else has turned. -/
theorem moved_end {w W1 : World} {g s : Nat} {t : Value} {k' : Int} {bad : Bool} (h : RBlk W1 g t k' bad ∧ w.grownBy W1 (some g)) (hs : w.heap.size = s) (hg : g < s) (x0 x1 x2 x3 : Value) :
    RBlk ((((W1.setCell ⟨s, 0, none⟩ x0).setCell ⟨s, 1, none⟩ x1).setCell ⟨s, 2, none⟩ x2).setCell ⟨s, 3, none⟩ x3) g t k' bad ∧
    w.grownBy ((((W1.setCell ⟨s, 0, none⟩ x0).setCell ⟨s, 1, none⟩ x1).setCell ⟨s, 2, none⟩ x2).setCell ⟨s, 3, none⟩ x3) (some g) := by
  have hold : ∀ j, j < s → ((((W1.setCell ⟨s, 0, none⟩ x0).setCell ⟨s, 1, none⟩ x1).setCell ⟨s, 2, none⟩ x2).setCell ⟨s, 3, none⟩ x3).heap[j]? = W1.heap[j]? := by
    intro j hj
    have hne : j ≠ s := by omega
    rw [Below.heap_setCell _ _ _ j hne, Below.heap_setCell _ _ _ j hne, Below.heap_setCell _ _ _ j hne, Below.heap_setCell _ _ _ j hne]
  refine ⟨h.1.same (hold g hg), h.2.os, h.2.tape, h.2.output, ?_, fun j hj hne => (hold j (by omega)).trans (h.2.block j hj hne)⟩
  have := h.2.size
  simpa [World.setCell] using this
set_option maxRecDepth 100000 in
set_option maxHeartbeats 1000000 in
theorem move_here (g : Nat) (a : Option Addr) (len cap k n : Nat) (zs : List Int) (w : World) (hb : RBlk w g (.slice a len cap) k false) (hr : Rd w a zs) (hl : zs.length = len) (hc : len ≤ cap) (hm : len ≤ 140737488355328) (hn : k + n ≤ len) (ho : Off a g) :
    Calls Try.prog 95 #[.pointer (some ⟨g, 0, none⟩), .int .u8 0, .int .i64 n] w fun e w' => ∃ ov, e = .returned (.agg #[.slice ov n (cap - k), .int .i64 ((k : Int) + (n : Int)), .int .i64 ((len : Int) - ((k : Int) + (n : Int))), .bool false]) ∧
      Hid (Rd w' ov ((zs.drop k).take n) ∧ (ov = none → a = none) ∧ RBlk w' g (.slice a len cap) ((k : Int) + (n : Int)) false ∧ w.grownBy w' (some g)) := by
  have HB : Hid (RBlk w g (.slice a len cap) k false) := hb
  have HR : Hid (Rd w a zs) := hr
  have HL : Hid (zs.length = len) := hl
  have HO : Hid (Off a g) := ho
  have hg := hb.lt
  have c0 := hb.c0
  have c1 := hb.c1
  have c2 := hb.c2
  have c3 := hb.c3
  have f2 := hb.fz 2
  have hne := neq_ptr_same ⟨g, 0, none⟩
  clear hb hr hl ho
  go_enter Try.func95, Try.ntmps95
  go_wp2_with fail
  refine (piece_in a len cap k n zs _ (HR.out.below ((Below.refl _ _).alloc (Nat.le_refl _) _)) HL.out hc hm hn).mono ?_
  rintro e w' ⟨⟨ov, rfl, H1⟩, rfl⟩
  go_wp2_with fail
  have hkn : (k : Int) + (n : Int) ≤ (len : Int) := by omega
  have hw : IntKind.i64.wrap ((len : Int) - ((k : Int) + (n : Int))) = (len : Int) - ((k : Int) + (n : Int)) := by rw [IntKind.wrap_i64]; omega
  have hgw : ¬ w.heap.size = g := by omega
  obtain ⟨m1, m2, m3, m4⟩ := moved g (.slice a len cap) k ((k : Int) + (n : Int)) w HB.out #[.slice none 0 0, .int .i64 0, .int .i64 0, .bool false]
  obtain ⟨v0, v1, v2, v3, v4⟩ := cells4 m2
  have d1 := m1.c1
  have d2 := m1.c2
  have HM : Hid (RBlk ((w.setCell ⟨g, 2, none⟩ (.int .i64 ((k : Int) + (n : Int)))).alloc (.cells #[.slice none 0 0, .int .i64 0, .int .i64 0, .bool false] 117)) g (.slice a len cap) ((k : Int) + (n : Int)) false ∧ w.grownBy ((w.setCell ⟨g, 2, none⟩ (.int .i64 ((k : Int) + (n : Int)))).alloc (.cells #[.slice none 0 0, .int .i64 0, .int .i64 0, .bool false] 117)) (some g)) := ⟨m1, m3⟩
  clear m1 m2 m3 c0 c1 c2 c3 f2 hne
  generalize (w.setCell ⟨g, 2, none⟩ (.int .i64 ((k : Int) + (n : Int)))).alloc (.cells #[.slice none 0 0, .int .i64 0, .int .i64 0, .bool false] 117) = W1 at *
  generalize hs : w.heap.size = s at *
  have HS : Hid (w.heap.size = s) := hs
  clear hs
  have v4a := v4 0
  have v4b := v4 1
  have v4c := v4 2
  have v4d := v4 3
  clear v4
  go_region_held3 (fun W => W.cell? ⟨g, 1, none⟩ = some (.slice a len cap) ∧ W.cell? ⟨g, 2, none⟩ = some (.int .i64 ((k : Int) + (n : Int)))) (go_keep) (fail)
  go_wp2
  obtain ⟨h1, h2⟩ := H1.out
  have hM := moved_end HM.out HS.out (by omega) (.slice ov n (cap - k)) (.int .i64 ((k : Int) + (n : Int))) (.int .i64 ((len : Int) - ((k : Int) + (n : Int)))) (.bool false)
  have hR := h1 _ (HR.out.grown hM.2 HO.out)
  clear h1
  refine bodyPost_ret (v := .agg #[.slice ov n (cap - k), .int .i64 ((k : Int) + (n : Int)), .int .i64 ((len : Int) - ((k : Int) + (n : Int))), .bool false]) ?_ rfl ⟨ov, rfl, hR, h2, hM.1, hM.2.os, hM.2.tape, hM.2.output, hM.2.size, hM.2.block⟩
  clear hM hR HM H1 HR HO
  simp [results, Try.results52, go_sem, *]
theorem spoilt (g : Nat) (t : Value) (k : Int) (w : World) (hb : RBlk w g t k false) (cs : Array Value) :
    RBlk (((((w.setCell ⟨g, 0, none⟩ (.pointer (some ⟨g, 0, none⟩))).setCell ⟨g, 1, none⟩ (.slice none 0 0)).setCell ⟨g, 2, none⟩ (.int .i64 0)).setCell ⟨g, 3, none⟩ (.bool true)).alloc (.cells cs 117)) g (.slice none 0 0) 0 true ∧
    w.grownBy (((((w.setCell ⟨g, 0, none⟩ (.pointer (some ⟨g, 0, none⟩))).setCell ⟨g, 1, none⟩ (.slice none 0 0)).setCell ⟨g, 2, none⟩ (.int .i64 0)).setCell ⟨g, 3, none⟩ (.bool true)).alloc (.cells cs 117)) (some g) := by
  have h4 := heap_set (heap_set (heap_set (heap_set hb 0 (.pointer (some ⟨g, 0, none⟩))) 1 (.slice none 0 0)) 2 (.int .i64 0)) 3 (.bool true)
  have hsz : ((((w.setCell ⟨g, 0, none⟩ (.pointer (some ⟨g, 0, none⟩))).setCell ⟨g, 1, none⟩ (.slice none 0 0)).setCell ⟨g, 2, none⟩ (.int .i64 0)).setCell ⟨g, 3, none⟩ (.bool true)).heap.size = w.heap.size := by simp [World.setCell]
  have hoth : ∀ j, j ≠ g → ((((w.setCell ⟨g, 0, none⟩ (.pointer (some ⟨g, 0, none⟩))).setCell ⟨g, 1, none⟩ (.slice none 0 0)).setCell ⟨g, 2, none⟩ (.int .i64 0)).setCell ⟨g, 3, none⟩ (.bool true)).heap[j]? = w.heap[j]? := by
    intro j hj
    rw [Below.heap_setCell _ _ _ j hj, Below.heap_setCell _ _ _ j hj, Below.heap_setCell _ _ _ j hj, Below.heap_setCell _ _ _ j hj]
  have hlt := hb.lt
  have hgr : w.grownBy ((((w.setCell ⟨g, 0, none⟩ (.pointer (some ⟨g, 0, none⟩))).setCell ⟨g, 1, none⟩ (.slice none 0 0)).setCell ⟨g, 2, none⟩ (.int .i64 0)).setCell ⟨g, 3, none⟩ (.bool true)) (some g) := ⟨rfl, rfl, rfl, by rw [hsz]; exact Nat.le_refl _, fun j _ hne => hoth j (fun e => hne (by rw [e]))⟩
  revert h4 hsz hoth hgr
  generalize ((((w.setCell ⟨g, 0, none⟩ (.pointer (some ⟨g, 0, none⟩))).setCell ⟨g, 1, none⟩ (.slice none 0 0)).setCell ⟨g, 2, none⟩ (.int .i64 0)).setCell ⟨g, 3, none⟩ (.bool true)) = W
  intro h4 hsz hoth hgr
  refine ⟨?_, ?_⟩
  · have : (W.alloc (.cells cs 117)).heap[g]? = W.heap[g]? := Below.heap_alloc _ _ g (by omega)
    exact this.trans (h4.trans (by simp))
  · exact ⟨hgr.os, hgr.tape, hgr.output, by simp; omega, fun j hj hne => (Below.heap_alloc _ _ j (by omega)).trans (hgr.block j hj hne)⟩
set_option maxRecDepth 100000 in
set_option maxHeartbeats 1000000 in
theorem move_here_out (g : Nat) (a : Option Addr) (len cap : Nat) (k n : Int) (w : World) (hb : RBlk w g (.slice a len cap) k false) (hc : len ≤ cap) (hm : len ≤ 140737488355328) (hk : 0 ≤ k ∧ k ≤ len) (hn : n < 0 ∨ (len : Int) < k + n) :
    Calls Try.prog 95 #[.pointer (some ⟨g, 0, none⟩), .int .u8 0, .int .i64 n] w fun e w' => e = .returned (.agg #[.slice none 0 0, .int .i64 0, .int .i64 0, .bool true]) ∧
      Hid (RBlk w' g (.slice none 0 0) 0 true ∧ w.grownBy w' (some g)) := by
  have HB : Hid (RBlk w g (.slice a len cap) k false) := hb
  have hg := hb.lt
  have c0 := hb.c0
  have c1 := hb.c1
  have c2 := hb.c2
  have c3 := hb.c3
  have f0 := hb.fz 0
  have f1 := hb.fz 1
  have f2 := hb.fz 2
  have f3 := hb.fz 3
  have hne := neq_ptr_same ⟨g, 0, none⟩
  clear hb
  have HN : Hid (n < 0 ∨ (len : Int) < k + n) := hn
  clear hn
  go_enter Try.func95, Try.ntmps95
  go_wp2_with fail
  refine (piece_out a len cap k n _ hm (by have := HN.out; omega)).mono ?_
  rintro e w' ⟨rfl, rfl⟩
  go_wp2_with fail
  have hM := spoilt g _ _ w HB.out #[.slice none 0 0, .int .i64 0, .int .i64 0, .bool true]
  exact bodyPost_ret (v := .agg #[.slice none 0 0, .int .i64 0, .int .i64 0, .bool true]) (by simp [results, Try.results52, go_sem]) rfl ⟨rfl, hM⟩
set_option maxRecDepth 100000 in
set_option maxHeartbeats 1000000 in
theorem move_isbad (g : Nat) (f n : Int) (t : Value) (k : Int) (w : World) (hb : RBlk w g t k true) :
    Calls Try.prog 95 #[.pointer (some ⟨g, 0, none⟩), .int .u8 f, .int .i64 n] w fun e w' => e = .returned (.agg #[.slice none 0 0, .int .i64 0, .int .i64 0, .bool true]) ∧ Below w.heap.size w w' := by
  have hg := hb.lt
  have c0 := hb.c0
  have c3 := hb.c3
  have hne := neq_ptr_same ⟨g, 0, none⟩
  clear hb
  go_enter Try.func95, Try.ntmps95
  go_wp2
  exact bodyPost_ret (v := .agg #[.slice none 0 0, .int .i64 0, .int .i64 0, .bool true]) (by simp [results, Try.results52, go_sem]) rfl ⟨rfl, ((Below.refl _ _).alloc (Nat.le_refl _) _)⟩
end Go.Proofs.Ytdeoembjfdbbkaa
/- The reader of octets, for names. -/
namespace Go.Proofs.Ytdeoembjfdbbkaa
open Go.ChangeShapes Go.WideShapes Go.ChangeAt Go.RowKit
set_option linter.unusedVariables false
set_option linter.unusedSimpArgs false
attribute [local go_sem] view0 view1 view2 view3 slice_is_nil

theorem new_below (w : World) (o : Obj) : Below w.heap.size w (w.alloc o) := (Below.refl _ _).alloc (Nat.le_refl _) _
attribute [local go_sem] view0 view1 view2 view3

/-- A reader's state: its place, or none where it is bad. -/
def RSt (w : World) (g : Nat) (a : Option Addr) (len cap : Nat) : Option Nat → Prop
  | some k => RBlk w g (.slice a len cap) k false ∧ k ≤ len
  | none => RBlk w g (.slice none 0 0) 0 true
/-- What becomes of the state by going on over n bytes, by going to a place; the bytes that are gone over. -/
def mv (len : Nat) (st : Option Nat) (n : Int) : Option Nat := match st with
  | some k => if 0 ≤ n ∧ k + n ≤ len then some (k + n.toNat) else none
  | none => none
def tk (zs : List Int) (st : Option Nat) (n : Int) : List Int := match st with
  | some k => if 0 ≤ n ∧ k + n ≤ zs.length then (zs.drop k).take n.toNat else []
  | none => []
def pos : Option Nat → Int
  | some k => k
  | none => 0
def lft (len : Nat) : Option Nat → Int
  | some k => (len : Int) - (k : Int)
  | none => 0
theorem mv_zero (len : Nat) (st : Option Nat) (h : ∀ k, st = some k → k ≤ len) : mv len st 0 = st := by
  cases st with
  | none => rfl
  | some k => have := h k rfl; simp [mv]; omega
theorem tk_len (zs : List Int) (st : Option Nat) (n : Nat) : (tk zs st n).length ≤ n := by
  unfold tk
  split
  · split
    · simp; omega
    · simp
  · simp
theorem tk_bytes (zs : List Int) (st : Option Nat) (n : Int) (h : ∀ z ∈ zs, 0 ≤ z ∧ z ≤ 255) : ∀ z ∈ tk zs st n, 0 ≤ z ∧ z ≤ 255 := by
  unfold tk
  split
  · split
    · intro z hz; exact h z (List.mem_of_mem_drop (List.mem_of_mem_take hz))
    · simp
  · simp
theorem RSt.le {w : World} {g : Nat} {a : Option Addr} {len cap : Nat} {st : Option Nat} (h : RSt w g a len cap st) : ∀ k, st = some k → k ≤ len := by
  rintro k rfl; exact h.2
theorem RSt.lt {w : World} {g : Nat} {a : Option Addr} {len cap : Nat} {st : Option Nat} (h : RSt w g a len cap st) : g < w.heap.size := by
  cases st with
  | none => exact RBlk.lt h
  | some k => exact RBlk.lt h.1
theorem RSt.same {w w' : World} {g : Nat} {a : Option Addr} {len cap : Nat} {st : Option Nat} (h : RSt w g a len cap st) (hb : w'.heap[g]? = w.heap[g]?) : RSt w' g a len cap st := by
  cases st with
  | none => exact RBlk.same h hb
  | some k => exact ⟨RBlk.same h.1 hb, h.2⟩
theorem below_grown {w w' : World} {row : Option Nat} (h : Below w.heap.size w w') : w.grownBy w' row := ⟨h.os, h.tape, h.output, h.size, fun k hk _ => h.block k hk⟩
theorem move_any (g : Nat) (a : Option Addr) (len cap : Nat) (zs : List Int) (st st' : Option Nat) (n : Int) (c : Nat) (w : World) (hs : RSt w g a len cap st) (hr : Rd w a zs) (hl : zs.length = len) (hc : len ≤ cap) (hm : len ≤ 140737488355328) (hd : a = none → cap = 0) (ho : Off a g)
    (hst : mv len st n = st') (htk : (tk zs st n).length = c) :
    Calls Try.prog 95 #[.pointer (some ⟨g, 0, none⟩), .int .u8 0, .int .i64 n] w fun e w' => ∃ ov oc, e = .returned (.agg #[.slice ov c oc, .int .i64 (pos st'), .int .i64 (lft len st'), .bool st'.isNone]) ∧
      Hid (Rd w' ov (tk zs st n) ∧ (ov = none → oc = 0) ∧ RSt w' g a len cap st' ∧ w.grownBy w' (some g)) := by
  subst hst; subst htk
  cases st with
  | none =>
    refine (move_isbad g 0 n _ _ w hs).mono ?_
    rintro e w' ⟨rfl, hb⟩
    exact ⟨none, 0, rfl, ⟨.inl rfl, by simp [tk]⟩, fun _ => rfl, RSt.same (st := none) hs (hb.block g (RBlk.lt hs)), below_grown hb⟩
  | some k =>
    by_cases h : 0 ≤ n ∧ k + n ≤ len
    · obtain ⟨m, rfl⟩ := Int.eq_ofNat_of_zero_le h.1
      have hkm : k + m ≤ len := by omega
      have e1 : mv len (some k) m = some (k + m) := by simp only [mv]; rw [if_pos h]; rfl
      have e2 : tk zs (some k) m = (zs.drop k).take m := by simp only [tk]; rw [if_pos (by rw [hl]; exact h)]; rfl
      have e3 : ((zs.drop k).take m).length = m := by simp; omega
      rw [e1, e2, e3]
      refine (move_here g a len cap k m zs w hs.1 hr hl hc hm hkm ho).mono ?_
      rintro e w' ⟨ov, rfl, H⟩
      obtain ⟨h1, h2, h3, h4⟩ := H.out
      refine ⟨ov, cap - k, by simp [pos, lft], h1, fun e => by rw [hd (h2 e)]; omega, ⟨by simpa using h3, hkm⟩, h4⟩
    · have e1 : mv len (some k) n = none := by simp only [mv]; rw [if_neg h]
      have e2 : tk zs (some k) n = [] := by simp only [tk]; rw [if_neg (by rw [hl]; exact h)]
      rw [e1, e2]
      have hkl := hs.2
      refine (move_here_out g a len cap k n w hs.1 hc hm ⟨by omega, by omega⟩ (by omega)).mono ?_
      rintro e w' ⟨rfl, H⟩
      exact ⟨none, 0, rfl, ⟨.inl rfl, by simp⟩, fun _ => rfl, H.out.1, H.out.2⟩
theorem rbyte_any (g : Nat) (a : Option Addr) (len cap : Nat) (zs : List Int) (st : Option Nat) (w : World) (hs : RSt w g a len cap st) (hr : Rd w a zs) (hl : zs.length = len) (hc : len ≤ cap) (hm : len ≤ 140737488355328) (hd : a = none → cap = 0) (ho : Off a g) :
    Calls Try.prog 94 #[.pointer (some ⟨g, 0, none⟩)] w fun e w' => e = .returned (.int .i64 (val (tk zs st 1))) ∧ Hid (RSt w' g a len cap (mv len st 1) ∧ w.grownBy w' (some g)) := by
  have H0 : Hid (RSt w g a len cap st ∧ Rd w a zs ∧ zs.length = len ∧ (a = none → cap = 0) ∧ Off a g) := ⟨hs, hr, hl, hd, ho⟩
  clear hs hr hl hd ho
  obtain ⟨st', hst⟩ : ∃ x, mv len st 1 = x := ⟨_, rfl⟩
  obtain ⟨c, htk⟩ : ∃ x, (tk zs st 1).length = x := ⟨_, rfl⟩
  have hc4 : c ≤ 1 := by have : (tk zs st (1 : Int)).length ≤ 1 := tk_len zs st 1; omega
  have hv := val_small4 (tk zs st 1) (tk_bytes zs st 1 H0.out.2.1.2) (by omega)
  have HT : Hid (mv len st 1 = st' ∧ (tk zs st 1).length = c) := ⟨hst, htk⟩
  clear hst htk
  rw [HT.out.1]
  go_enter Try.func94, Try.ntmps94
  go_wp2_with fail
  refine (move_any g a len cap zs st st' 1 c _ H0.out.1 H0.out.2.1 H0.out.2.2.1 hc hm H0.out.2.2.2.1 H0.out.2.2.2.2 HT.out.1 HT.out.2).mono ?_
  rintro e w1 ⟨ov, oc, rfl, H1⟩
  go_wp2_with fail
  refine (number_any ov c oc (tk zs st 1) _ H1.out.1 HT.out.2 (by omega)).mono ?_
  rintro e w2 ⟨rfl, rfl⟩
  go_wp2
  go_ret
  exact ⟨by simp, H1.out.2.2.1, H1.out.2.2.2⟩
theorem rtake_any (g : Nat) (a : Option Addr) (len cap : Nat) (zs : List Int) (st : Option Nat) (n : Int) (w : World) (hs : RSt w g a len cap st) (hr : Rd w a zs) (hl : zs.length = len) (hc : len ≤ cap) (hm : len ≤ 140737488355328) (hd : a = none → cap = 0) (ho : Off a g) :
    Calls Try.prog 74 #[.pointer (some ⟨g, 0, none⟩), .int .i64 n] w fun e w' => ∃ v ys, e = .returned v ∧ Hid (Own w.heap.size w' v (tk zs st n).length ys ∧ ys.take (tk zs st n).length = tk zs st n ∧ RSt w' g a len cap (mv len st n) ∧ w.grownBy w' (some g)) := by
  have H0 : Hid (RSt w g a len cap st ∧ Rd w a zs ∧ zs.length = len ∧ (a = none → cap = 0) ∧ Off a g) := ⟨hs, hr, hl, hd, ho⟩
  clear hs hr hl hd ho
  obtain ⟨st', hst⟩ : ∃ x, mv len st n = x := ⟨_, rfl⟩
  obtain ⟨c, htk⟩ : ∃ x, (tk zs st n).length = x := ⟨_, rfl⟩
  have HT : Hid (mv len st n = st' ∧ (tk zs st n).length = c) := ⟨hst, htk⟩
  have hcl : c ≤ len := by
    have h1 := H0.out.2.2.1
    rw [← htk]; unfold tk
    split
    · split
      · simp; omega
      · simp
    · simp
  clear hst htk
  rw [HT.out.1, HT.out.2]
  go_enter Try.func74, Try.ntmps74
  go_wp2_with fail
  refine (move_any g a len cap zs st st' n c _ H0.out.1 H0.out.2.1 H0.out.2.2.1 hc hm H0.out.2.2.2.1 H0.out.2.2.2.2 HT.out.1 HT.out.2).mono ?_
  rintro e w1 ⟨ov, oc, rfl, H1⟩
  cases ov with
  | none =>
    have ec : c = 0 := by
      rw [← HT.out.2]
      rcases H1.out.1.1 with h | ⟨b, o, h, _⟩
      · rw [h]; rfl
      · cases h
    have eo : oc = 0 := H1.out.2.1 rfl
    subst ec; subst eo
    go_wp2_with fail
    refine (clone_none _).mono ?_
    rintro e w2 ⟨rfl, rfl⟩
    go_wp2
    go_ret
    have et : tk zs st n = [] := List.eq_nil_of_length_eq_zero HT.out.2
    exact ⟨_, [], rfl, .inl ⟨rfl, rfl, rfl⟩, by rw [et]; rfl, H1.out.2.2.1, H1.out.2.2.2⟩
  | some x =>
    have HX : Hid (Calls Try.prog 89 #[.slice (some x) c oc] w1 fun e w' => ∃ v ys, e = .returned v ∧ Hid (Own w1.heap.size w' v c ys ∧ ys.take c = tk zs st n ∧ Below w1.heap.size w1 w')) := by
      have := clone_any x oc (tk zs st n) w1 H1.out.1 (by rw [HT.out.2]; omega)
      rw [HT.out.2] at this
      exact this
    go_wp2_with fail
    refine HX.out.mono ?_
    rintro e w2 ⟨v, ys, rfl, H2⟩
    go_wp2
    go_ret
    obtain ⟨p1, p2, p3⟩ := H2.out
    have hgs := H1.out.2.2.1.lt
    have hsz := H1.out.2.2.2.size
    refine ⟨v, ys, rfl, ?_, p2, H1.out.2.2.1.same (p3.block g hgs), ?_⟩
    · rcases p1 with h | ⟨g', h1, h2, h3⟩
      · exact .inl h
      · exact .inr ⟨g', h1, by omega, h3⟩
    · have hg := H1.out.2.2.2
      exact ⟨p3.os.trans hg.os, p3.tape.trans hg.tape, p3.output.trans hg.output, Nat.le_trans hg.size p3.size, fun j hj hne => (p3.block j (by omega)).trans (hg.block j hj hne)⟩
theorem rat_any (g : Nat) (a : Option Addr) (len cap : Nat) (zs : List Int) (st : Option Nat) (w : World) (hs : RSt w g a len cap st) (hr : Rd w a zs) (hl : zs.length = len) (hc : len ≤ cap) (hm : len ≤ 140737488355328) (hd : a = none → cap = 0) (ho : Off a g) :
    Calls Try.prog 91 #[.pointer (some ⟨g, 0, none⟩)] w fun e w' => e = .returned (.int .i64 (pos st)) ∧ Hid (RSt w' g a len cap st ∧ w.grownBy w' (some g)) := by
  have H0 : Hid (RSt w g a len cap st ∧ Rd w a zs ∧ zs.length = len ∧ (a = none → cap = 0) ∧ Off a g) := ⟨hs, hr, hl, hd, ho⟩
  clear hs hr hl hd ho
  go_enter Try.func91, Try.ntmps91
  go_wp2_with fail
  refine (move_any g a len cap zs st st 0 _ _ H0.out.1 H0.out.2.1 H0.out.2.2.1 hc hm H0.out.2.2.2.1 H0.out.2.2.2.2 (mv_zero len st H0.out.1.le) rfl).mono ?_
  rintro e w1 ⟨ov, oc, rfl, H1⟩
  go_wp2
  go_ret
  exact ⟨rfl, H1.out.2.2.1, H1.out.2.2.2⟩
theorem rbad_any (g : Nat) (a : Option Addr) (len cap : Nat) (zs : List Int) (st : Option Nat) (w : World) (hs : RSt w g a len cap st) (hr : Rd w a zs) (hl : zs.length = len) (hc : len ≤ cap) (hm : len ≤ 140737488355328) (hd : a = none → cap = 0) (ho : Off a g) :
    Calls Try.prog 76 #[.pointer (some ⟨g, 0, none⟩)] w fun e w' => e = .returned (.bool st.isNone) ∧ Hid (RSt w' g a len cap st ∧ w.grownBy w' (some g)) := by
  have H0 : Hid (RSt w g a len cap st ∧ Rd w a zs ∧ zs.length = len ∧ (a = none → cap = 0) ∧ Off a g) := ⟨hs, hr, hl, hd, ho⟩
  clear hs hr hl hd ho
  go_enter Try.func76, Try.ntmps76
  go_wp2_with fail
  refine (move_any g a len cap zs st st 0 _ _ H0.out.1 H0.out.2.1 H0.out.2.2.1 hc hm H0.out.2.2.2.1 H0.out.2.2.2.2 (mv_zero len st H0.out.1.le) rfl).mono ?_
  rintro e w1 ⟨ov, oc, rfl, H1⟩
  go_wp2
  go_ret
  exact ⟨rfl, H1.out.2.2.1, H1.out.2.2.2⟩
set_option maxRecDepth 100000 in
set_option maxHeartbeats 400000 in
theorem new_any (x : Addr) (cap : Nat) (zs : List Int) (w : World) (hr : Rd w (some x) zs) (hm : zs.length ≤ 140737488355328) :
    Calls Try.prog 70 #[.slice (some x) zs.length cap] w fun e w' => ∃ gr a' ca, e = .returned (.pointer (some ⟨gr, 0, none⟩)) ∧ Hid (w.heap.size ≤ gr ∧ RBlk w' gr (.slice a' zs.length ca) 0 false ∧ Rd w' a' zs ∧ zs.length ≤ ca ∧ (a' = none → ca = 0) ∧ Off a' gr ∧ (∀ y o, a' = some ⟨y, o, none⟩ → w.heap.size ≤ y ∧ y < w'.heap.size) ∧ Below w.heap.size w w') := by
  have HX : Hid (Calls Try.prog 89 #[.slice (some x) zs.length cap] w fun e w' => ∃ v ys, e = .returned v ∧ Hid (Own w.heap.size w' v zs.length ys ∧ ys.take zs.length = zs ∧ Below w.heap.size w w')) := clone_any x cap zs w hr hm
  clear hr hm
  generalize hl : zs.length = len at *
  have HL : Hid (zs.length = len) := hl
  clear hl
  go_enter Try.func70, Try.ntmps70
  go_wp2_with fail
  refine HX.out.mono ?_
  rintro e w1 ⟨v, ys, rfl, H1⟩
  obtain ⟨a', rfl, hoa⟩ := H1.out.1.addr
  have HO : Hid (OwnA w.heap.size w1 a' len ys ∧ ys.take len = zs ∧ Below w.heap.size w w1) := ⟨hoa, H1.out.2.1, H1.out.2.2⟩
  clear hoa H1
  generalize hy : ys.length = yl
  have HY : Hid (ys.length = yl) := hy
  clear hy
  go_wp2
  go_ret
  obtain ⟨q1, q2, q3⟩ := HO.out
  have hnb := new_below w1 (.cells #[.pointer (some ⟨w1.heap.size, 0, none⟩), .slice a' len yl, .int .i64 0, .bool false] 111)
  have hrd := q1.rdTake len
  rw [q2] at hrd
  refine ⟨w1.heap.size, a', yl, rfl, q3.size, heap_alloc_new _ _, hrd.below hnb, ?_, ?_, ?_, ?_, q3.trans (hnb.mono q3.size)⟩
  · have := q1.le.1; rw [HY.out] at this; exact this
  · intro e; have := q1.nil e; rw [HY.out] at this; exact this
  · rintro y o rfl
    have := (q1.lt y rfl).2
    omega
  · rintro y o rfl
    have h1 := (q1.lt y rfl)
    have h2 := hnb.size
    exact ⟨h1.1, by omega⟩
end Go.Proofs.Ytdeoembjfdbbkaa
/- Picked out of earlier texts. -/
namespace Go.Proofs.Ytdeoembjfdbbkaa
open Go.ChangeShapes Go.WideShapes Go.ChangeAt Go.RowKit
set_option linter.unusedVariables false
set_option linter.unusedSimpArgs false

set_option maxRecDepth 100000 in
set_option maxHeartbeats 1000000 in
theorem move_front (g : Nat) (a : Option Addr) (len cap n : Nat) (k : Int) (zs : List Int) (w : World) (hb : RBlk w g (.slice a len cap) k false) (hr : Rd w a zs) (hl : zs.length = len) (hc : len ≤ cap) (hm : len ≤ 140737488355328) (hn : n ≤ len) (ho : Off a g) :
    Calls Try.prog 95 #[.pointer (some ⟨g, 0, none⟩), .int .u8 1, .int .i64 n] w fun e w' => ∃ ov, e = .returned (.agg #[.slice ov n cap, .int .i64 (n : Int), .int .i64 ((len : Int) - (n : Int)), .bool false]) ∧
      Hid (Rd w' ov (zs.take n) ∧ (ov = none → a = none) ∧ RBlk w' g (.slice a len cap) (n : Int) false ∧ w.grownBy w' (some g)) := by
  have HB : Hid (RBlk w g (.slice a len cap) k false) := hb
  have HR : Hid (Rd w a zs) := hr
  have HL : Hid (zs.length = len) := hl
  have HO : Hid (Off a g) := ho
  have hg := hb.lt
  have c0 := hb.c0
  have c1 := hb.c1
  have c2 := hb.c2
  have c3 := hb.c3
  have f2 := hb.fz 2
  have hne := neq_ptr_same ⟨g, 0, none⟩
  clear hb hr hl ho
  go_enter Try.func95, Try.ntmps95
  go_wp2_with fail
  refine (piece_in a len cap 0 n zs _ (HR.out.below ((Below.refl _ _).alloc (Nat.le_refl _) _)) HL.out hc hm (by omega)).mono ?_
  rintro e w' ⟨⟨ov, rfl, H1⟩, rfl⟩
  go_wp2_with fail
  have hw : IntKind.i64.wrap ((len : Int) - (n : Int)) = (len : Int) - (n : Int) := by rw [IntKind.wrap_i64]; omega
  have hgw : ¬ w.heap.size = g := by omega
  obtain ⟨m1, m2, m3, m4⟩ := moved g (.slice a len cap) k (n : Int) w HB.out #[.slice none 0 0, .int .i64 0, .int .i64 0, .bool false]
  obtain ⟨v0, v1, v2, v3, v4⟩ := cells4 m2
  have d1 := m1.c1
  have d2 := m1.c2
  have HM : Hid (RBlk ((w.setCell ⟨g, 2, none⟩ (.int .i64 (n : Int))).alloc (.cells #[.slice none 0 0, .int .i64 0, .int .i64 0, .bool false] 117)) g (.slice a len cap) (n : Int) false ∧ w.grownBy ((w.setCell ⟨g, 2, none⟩ (.int .i64 (n : Int))).alloc (.cells #[.slice none 0 0, .int .i64 0, .int .i64 0, .bool false] 117)) (some g)) := ⟨m1, m3⟩
  clear m1 m2 m3 c0 c1 c2 c3 f2 hne
  generalize (w.setCell ⟨g, 2, none⟩ (.int .i64 (n : Int))).alloc (.cells #[.slice none 0 0, .int .i64 0, .int .i64 0, .bool false] 117) = W1 at *
  generalize hs : w.heap.size = s at *
  have HS : Hid (w.heap.size = s) := hs
  clear hs
  have v4a := v4 0
  have v4b := v4 1
  have v4c := v4 2
  have v4d := v4 3
  clear v4
  go_region_held3 (fun W => W.cell? ⟨g, 1, none⟩ = some (.slice a len cap) ∧ W.cell? ⟨g, 2, none⟩ = some (.int .i64 (n : Int))) (go_keep) (fail)
  go_wp2
  obtain ⟨h1, h2⟩ := H1.out
  have hM := moved_end HM.out HS.out (by omega) (.slice ov n cap) (.int .i64 (n : Int)) (.int .i64 ((len : Int) - (n : Int))) (.bool false)
  have hR := h1 _ (HR.out.grown hM.2 HO.out)
  clear h1
  refine bodyPost_ret (v := .agg #[.slice ov n cap, .int .i64 (n : Int), .int .i64 ((len : Int) - (n : Int)), .bool false]) ?_ rfl ⟨ov, rfl, hR, h2, hM.1, hM.2.os, hM.2.tape, hM.2.output, hM.2.size, hM.2.block⟩
  clear hM hR HM H1 HR HO
  simp [results, Try.results52, go_sem, *]
set_option maxRecDepth 100000 in
set_option maxHeartbeats 1000000 in
theorem move_front_out (g : Nat) (a : Option Addr) (len cap : Nat) (k n : Int) (w : World) (hb : RBlk w g (.slice a len cap) k false) (hc : len ≤ cap) (hm : len ≤ 140737488355328) (hk : 0 ≤ k ∧ k ≤ len) (hn : n < 0 ∨ (len : Int) < n) :
    Calls Try.prog 95 #[.pointer (some ⟨g, 0, none⟩), .int .u8 1, .int .i64 n] w fun e w' => e = .returned (.agg #[.slice none 0 0, .int .i64 0, .int .i64 0, .bool true]) ∧
      Hid (RBlk w' g (.slice none 0 0) 0 true ∧ w.grownBy w' (some g)) := by
  have HB : Hid (RBlk w g (.slice a len cap) k false) := hb
  have hg := hb.lt
  have c0 := hb.c0
  have c1 := hb.c1
  have c2 := hb.c2
  have c3 := hb.c3
  have f0 := hb.fz 0
  have f1 := hb.fz 1
  have f2 := hb.fz 2
  have f3 := hb.fz 3
  have hne := neq_ptr_same ⟨g, 0, none⟩
  clear hb
  have HN : Hid (n < 0 ∨ (len : Int) < n) := hn
  clear hn
  go_enter Try.func95, Try.ntmps95
  go_wp2_with fail
  refine (piece_out a len cap 0 n _ hm (by have := HN.out; omega)).mono ?_
  rintro e w' ⟨rfl, rfl⟩
  go_wp2_with fail
  have hM := spoilt g _ _ w HB.out #[.slice none 0 0, .int .i64 0, .int .i64 0, .bool true]
  exact bodyPost_ret (v := .agg #[.slice none 0 0, .int .i64 0, .int .i64 0, .bool true]) (by simp [results, Try.results52, go_sem]) rfl ⟨rfl, hM⟩
attribute [local go_sem] view0 view1 view2 view3
def jm (len : Nat) (st : Option Nat) (n : Int) : Option Nat := match st with
  | some _ => if 0 ≤ n ∧ n ≤ len then some n.toNat else none
  | none => none
theorem jumpto_any (g : Nat) (a : Option Addr) (len cap : Nat) (zs : List Int) (st : Option Nat) (n : Int) (w : World) (hs : RSt w g a len cap st) (hr : Rd w a zs) (hl : zs.length = len) (hc : len ≤ cap) (hm : len ≤ 140737488355328) (ho : Off a g) :
    Calls Try.prog 95 #[.pointer (some ⟨g, 0, none⟩), .int .u8 1, .int .i64 n] w fun e w' => ∃ v, e = .returned v ∧ Hid (RSt w' g a len cap (jm len st n) ∧ w.grownBy w' (some g)) := by
  cases st with
  | none =>
    refine (move_isbad g 1 n _ _ w hs).mono ?_
    rintro e w' ⟨rfl, hb⟩
    exact ⟨_, rfl, RSt.same (st := none) hs (hb.block g (RBlk.lt hs)), below_grown hb⟩
  | some k =>
    by_cases h : 0 ≤ n ∧ n ≤ len
    · obtain ⟨m, rfl⟩ := Int.eq_ofNat_of_zero_le h.1
      have hm' : m ≤ len := by omega
      have e1 : jm len (some k) m = some m := by simp only [jm]; rw [if_pos h]; rfl
      rw [e1]
      refine (move_front g a len cap m k zs w hs.1 hr hl hc hm hm' ho).mono ?_
      rintro e w' ⟨ov, rfl, H⟩
      exact ⟨_, rfl, ⟨H.out.2.2.1, hm'⟩, H.out.2.2.2⟩
    · have e1 : jm len (some k) n = none := by simp only [jm]; rw [if_neg h]
      rw [e1]
      have hkl := hs.2
      refine (move_front_out g a len cap k n w hs.1 hc hm ⟨by omega, by omega⟩ (by omega)).mono ?_
      rintro e w' ⟨rfl, H⟩
      exact ⟨_, rfl, H.out.1, H.out.2⟩
theorem ru16_any (g : Nat) (a : Option Addr) (len cap : Nat) (zs : List Int) (st : Option Nat) (w : World) (hs : RSt w g a len cap st) (hr : Rd w a zs) (hl : zs.length = len) (hc : len ≤ cap) (hm : len ≤ 140737488355328) (hd : a = none → cap = 0) (ho : Off a g) :
    Calls Try.prog 100 #[.pointer (some ⟨g, 0, none⟩)] w fun e w' => e = .returned (.int .i64 (val (tk zs st 2))) ∧ Hid (RSt w' g a len cap (mv len st 2) ∧ w.grownBy w' (some g)) := by
  have H0 : Hid (RSt w g a len cap st ∧ Rd w a zs ∧ zs.length = len ∧ (a = none → cap = 0) ∧ Off a g) := ⟨hs, hr, hl, hd, ho⟩
  clear hs hr hl hd ho
  obtain ⟨st', hst⟩ : ∃ x, mv len st 2 = x := ⟨_, rfl⟩
  obtain ⟨c, htk⟩ : ∃ x, (tk zs st 2).length = x := ⟨_, rfl⟩
  have hc4 : c ≤ 2 := by have : (tk zs st (2 : Int)).length ≤ 2 := tk_len zs st 2; omega
  have hv := val_small4 (tk zs st 2) (tk_bytes zs st 2 H0.out.2.1.2) (by omega)
  have HT : Hid (mv len st 2 = st' ∧ (tk zs st 2).length = c) := ⟨hst, htk⟩
  clear hst htk
  rw [HT.out.1]
  go_enter Try.func100, Try.ntmps100
  go_wp2_with fail
  refine (move_any g a len cap zs st st' 2 c _ H0.out.1 H0.out.2.1 H0.out.2.2.1 hc hm H0.out.2.2.2.1 H0.out.2.2.2.2 HT.out.1 HT.out.2).mono ?_
  rintro e w1 ⟨ov, oc, rfl, H1⟩
  go_wp2_with fail
  refine (number_any ov c oc (tk zs st 2) _ H1.out.1 HT.out.2 (by omega)).mono ?_
  rintro e w2 ⟨rfl, rfl⟩
  go_wp2
  go_ret
  exact ⟨by simp, H1.out.2.2.1, H1.out.2.2.2⟩
theorem ru32_any (g : Nat) (a : Option Addr) (len cap : Nat) (zs : List Int) (st : Option Nat) (w : World) (hs : RSt w g a len cap st) (hr : Rd w a zs) (hl : zs.length = len) (hc : len ≤ cap) (hm : len ≤ 140737488355328) (hd : a = none → cap = 0) (ho : Off a g) :
    Calls Try.prog 101 #[.pointer (some ⟨g, 0, none⟩)] w fun e w' => e = .returned (.int .u32 (val (tk zs st 4))) ∧ Hid (RSt w' g a len cap (mv len st 4) ∧ w.grownBy w' (some g)) := by
  have H0 : Hid (RSt w g a len cap st ∧ Rd w a zs ∧ zs.length = len ∧ (a = none → cap = 0) ∧ Off a g) := ⟨hs, hr, hl, hd, ho⟩
  clear hs hr hl hd ho
  obtain ⟨st', hst⟩ : ∃ x, mv len st 4 = x := ⟨_, rfl⟩
  obtain ⟨c, htk⟩ : ∃ x, (tk zs st 4).length = x := ⟨_, rfl⟩
  have hc4 : c ≤ 4 := by have : (tk zs st (4 : Int)).length ≤ 4 := tk_len zs st 4; omega
  have hv := val_small4 (tk zs st 4) (tk_bytes zs st 4 H0.out.2.1.2) (by omega)
  have HT : Hid (mv len st 4 = st' ∧ (tk zs st 4).length = c) := ⟨hst, htk⟩
  clear hst htk
  rw [HT.out.1]
  go_enter Try.func101, Try.ntmps101
  go_wp2_with fail
  refine (move_any g a len cap zs st st' 4 c _ H0.out.1 H0.out.2.1 H0.out.2.2.1 hc hm H0.out.2.2.2.1 H0.out.2.2.2.2 HT.out.1 HT.out.2).mono ?_
  rintro e w1 ⟨ov, oc, rfl, H1⟩
  go_wp2_with fail
  refine (number_any ov c oc (tk zs st 4) _ H1.out.1 HT.out.2 (by omega)).mono ?_
  rintro e w2 ⟨rfl, rfl⟩
  go_wp2
  go_ret
  exact ⟨by simp, H1.out.2.2.1, H1.out.2.2.2⟩
theorem rjump_any (g : Nat) (a : Option Addr) (len cap : Nat) (zs : List Int) (st : Option Nat) (n : Int) (w : World) (hs : RSt w g a len cap st) (hr : Rd w a zs) (hl : zs.length = len) (hc : len ≤ cap) (hm : len ≤ 140737488355328) (hd : a = none → cap = 0) (ho : Off a g) :
    Calls Try.prog 92 #[.pointer (some ⟨g, 0, none⟩), .int .i64 n] w fun e w' => e = .returned (.tuple #[]) ∧ Hid (RSt w' g a len cap (jm len st n) ∧ w.grownBy w' (some g)) := by
  have H0 : Hid (RSt w g a len cap st ∧ Rd w a zs ∧ zs.length = len ∧ (a = none → cap = 0) ∧ Off a g) := ⟨hs, hr, hl, hd, ho⟩
  clear hs hr hl hd ho
  go_enter Try.func92, Try.ntmps92
  go_wp2_with fail
  refine (jumpto_any g a len cap zs st n _ H0.out.1 H0.out.2.1 H0.out.2.2.1 hc hm H0.out.2.2.2.2).mono ?_
  rintro e w1 ⟨v, rfl, H1⟩
  go_wp2
  go_end0
  exact ⟨rfl, H1⟩
theorem rleft_any (g : Nat) (a : Option Addr) (len cap : Nat) (zs : List Int) (st : Option Nat) (w : World) (hs : RSt w g a len cap st) (hr : Rd w a zs) (hl : zs.length = len) (hc : len ≤ cap) (hm : len ≤ 140737488355328) (hd : a = none → cap = 0) (ho : Off a g) :
    Calls Try.prog 75 #[.pointer (some ⟨g, 0, none⟩)] w fun e w' => e = .returned (.int .i64 (lft len st)) ∧ Hid (RSt w' g a len cap st ∧ w.grownBy w' (some g)) := by
  have H0 : Hid (RSt w g a len cap st ∧ Rd w a zs ∧ zs.length = len ∧ (a = none → cap = 0) ∧ Off a g) := ⟨hs, hr, hl, hd, ho⟩
  clear hs hr hl hd ho
  go_enter Try.func75, Try.ntmps75
  go_wp2_with fail
  refine (move_any g a len cap zs st st 0 _ _ H0.out.1 H0.out.2.1 H0.out.2.2.1 hc hm H0.out.2.2.2.1 H0.out.2.2.2.2 (mv_zero len st H0.out.1.le) rfl).mono ?_
  rintro e w1 ⟨ov, oc, rfl, H1⟩
  go_wp2
  go_ret
  exact ⟨rfl, H1.out.2.2.1, H1.out.2.2.2⟩
theorem put32_yes (n : Int) (w : World) (h0 : 0 ≤ n) (h1 : n < 4294967296) :
    Calls Try.prog 81 #[.int .u32 n] w fun e w' => e = .returned (.slice (some ⟨w.heap.size, 0, none⟩) 4 4) ∧ w' = w.alloc (.cells #[.int .u8 (n / 16777216), .int .u8 (n / 65536 % 256), .int .u8 (n / 256 % 256), .int .u8 (n % 256)] 5) := by
  go_enter Try.func81, Try.ntmps81
  go_wp2
  go_ret
  exact ⟨rfl, rfl⟩
set_option maxRecDepth 100000 in
set_option maxHeartbeats 400000 in
theorem new_none (w : World) :
    Calls Try.prog 70 #[.slice none 0 0] w fun e w' => ∃ gr a' ca, e = .returned (.pointer (some ⟨gr, 0, none⟩)) ∧ Hid (w.heap.size ≤ gr ∧ RBlk w' gr (.slice a' 0 ca) 0 false ∧ Rd w' a' [] ∧ 0 ≤ ca ∧ (a' = none → ca = 0) ∧ Off a' gr ∧ (∀ y o, a' = some ⟨y, o, none⟩ → w.heap.size ≤ y ∧ y < w'.heap.size) ∧ Below w.heap.size w w') := by
  go_enter Try.func70, Try.ntmps70
  go_wp2_with fail
  refine (clone_none _).mono ?_
  rintro e w1 ⟨rfl, rfl⟩
  go_wp2
  go_ret
  have hnb := new_below w1 (.cells #[.pointer (some ⟨w1.heap.size, 0, none⟩), .slice none 0 0, .int .i64 0, .bool false] 111)
  exact ⟨w1.heap.size, none, 0, rfl, Nat.le_refl _, heap_alloc_new _ _, ⟨.inl rfl, by simp⟩, Nat.le_refl _, fun _ => rfl, (by rintro _ _ ⟨⟩), (by rintro _ _ ⟨⟩), hnb⟩
end Go.Proofs.Ytdeoembjfdbbkaa
/- The program's data: names, numbers, texts written one behind the other. -/
namespace Go.Proofs.Ytdeoembjfdbbkaa
open Go.ChangeShapes Go.WideShapes Go.ChangeAt Go.RowKit
set_option linter.unusedVariables false
set_option linter.unusedSimpArgs false

theorem pnbytes_rd (a : Option Addr) (n c : Nat) (ss : List ByteArray) (w : World) (h : Nm w a n ss) (hk : nck ss = 0) :
    Calls Try.prog 80 #[.slice a n c] w fun e w' => ∃ ao cc, e = .returned (.tuple #[.slice ao (nmB ss).length cc, .int .i64 0]) ∧ Hid (Rd w' ao (nmB ss) ∧ (ao = none → cc = 0) ∧ Below w.heap.size w w') := by
  have hp : nbytes ss = (nmB ss, 0) := by unfold nbytes; rw [if_pos hk]; rfl
  have := pbytes_any a n c ss w h
  rw [hp] at this
  refine this.mono ?_
  rintro e w' ⟨v, ys, rfl, H⟩
  obtain ⟨h1, h2, h3⟩ := H.out
  simp only at h1 h2
  obtain ⟨ao, rfl, hoa⟩ := h1.addr
  have hrd := hoa.rdTake (nmB ss).length
  rw [h2] at hrd
  refine ⟨ao, ys.length, rfl, hrd, ?_, h3⟩
  rintro rfl
  have := rd_none hrd
  simp [nmB] at this
set_option maxRecDepth 100000 in
set_option maxHeartbeats 2000000 in
theorem putnames_any (W3 w : World) (v : Value) (m : Nat) (L : List Int) (s : Sl) (nss : List (List ByteArray)) (hg : Gr W3 w v m L) (hn : NRd W3 s nss) (hk : ∀ n ∈ nss, nck n = 0) (T : Nat) (R : List Int) (hT : m + (nss.flatMap nmB).length = T) (hR : L ++ nss.flatMap nmB = R) (hm : T ≤ 65535) :
    Calls Try.prog 54 #[v, .slice s.a s.n s.c] w fun e w' => ∃ v', e = .returned v' ∧ Hid (Gr W3 w' v' T R) := by
  obtain ⟨a1, n1, k1⟩ := s
  have HN : Hid (NRd W3 ⟨a1, n1, k1⟩ nss ∧ ∀ n ∈ nss, nck n = 0) := ⟨hn, hk⟩
  have HL : Hid (nss.length = n1) := hn.len
  have hc1 : n1 ≤ 9223372036854775807 := Nat.le_trans hn.cap.1 hn.cap.2
  have HM : Hid (m + (nss.flatMap nmB).length ≤ 65535) := by show _ ≤ _; omega
  have HTR : Hid (m + (nss.flatMap nmB).length = T ∧ L ++ nss.flatMap nmB = R) := ⟨hT, hR⟩
  have HG0 : Hid (Gr W3 w v m (L ++ (nss.take 0).flatMap nmB)) := by show Gr _ _ _ _ _; simpa using hg
  have hm0 : m ≤ 65535 := by omega
  clear hg hn hk hm hT hR
  simp only
  go_enter Try.func54, Try.ntmps54
  go_wp2_with fail
  go_loopw [0, 11] (fun v i wr => ∃ k q : Nat, k ≤ n1 ∧ q ≤ 65535 ∧ i = .int .i64 (k : Int) ∧ Hid (Gr W3 wr v q (L ++ (nss.take k).flatMap nmB)) ∧ Hid (q = m + ((nss.take k).flatMap nmB).length)) (fun _ i _ => n1 - (intOf i).toNat)
  case atStart => exact ⟨0, m, Nat.zero_le _, hm0, rfl, HG0, by show _ = _; simp⟩
  case round =>
    obtain ⟨k, q, hkn, hq, rfl, HG, HQ⟩ := hrel
    clear HG0
    by_cases hlt : k < n1
    · have hlt' : (k : Int) < (n1 : Int) := by omega
      have hki : k < nss.length := by rw [HL.out]; exact hlt
      obtain ⟨B1, o1, ha1, hl1, z1, hz1, hr1⟩ := (HN.out.1.below HG.out.bel).at k hki
      simp only at ha1
      subst ha1
      have hk0 := HN.out.2 _ (List.getElem_mem hki)
      have KB : Hid (∀ W, W = wr → Calls Try.prog 80 #[.slice z1.a z1.n z1.c] W fun e w' => ∃ ao cc, e = .returned (.tuple #[.slice ao (nmB nss[k]).length cc, .int .i64 0]) ∧ Hid (Rd w' ao (nmB nss[k]) ∧ (ao = none → cc = 0) ∧ Below W.heap.size W w')) := by
        intro W e
        subst e
        exact pnbytes_rd z1.a z1.n z1.c nss[k] W ⟨hr1.rd, hr1.len, by have := (nck_small hk0).1; omega⟩ hk0
      have HE0 : (nss.take (k + 1)).flatMap nmB = (nss.take k).flatMap nmB ++ nmB nss[k] := flat_snoc nmB nss k hki
      have HE : Hid (L ++ (nss.take (k + 1)).flatMap nmB = L ++ (nss.take k).flatMap nmB ++ nmB nss[k]) := by
        show _ = _
        rw [HE0, List.append_assoc]
      have HQ2 : Hid (q + (nmB nss[k]).length = m + ((nss.take (k + 1)).flatMap nmB).length) := by
        show _ = _
        rw [HE0, List.length_append, HQ.out]
        omega
      have hq2 : q + (nmB nss[k]).length ≤ 65535 := by
        have h1 := HQ2.out
        have h2 := flat_take nmB nss (k + 1)
        have h3 := HM.out
        omega
      clear hr1 hk0 HE0 HQ
      generalize nmB nss[k] = nb at *
      generalize hql : nb.length = ql at *
      have HQl : Hid (nb.length = ql) := hql
      clear hql
      generalize z1.a = za at *
      generalize z1.n = zn at *
      generalize z1.c = zc at *
      go_wp2_with fail
      refine (KB.out _ rfl).mono ?_
      rintro e W5 ⟨ao, cc, rfl, H5⟩
      have HG5 : Hid (Gr W3 W5 u0 q (L ++ (nss.take k).flatMap nmB)) := HG.out.go H5.out.2.2
      go_wp2_with (at_builtin; refine wp_gr W3 _ rfl _ _ rfl u0 q (L ++ (nss.take k).flatMap nmB) rfl HG5.out ao ql cc nb rfl H5.out.1 HQl.out H5.out.2.1 (by omega) ?_; intro v6 W6 HG6)
      refine ⟨⟨k + 1, q + ql, by omega, hq2, by go_num, ?_, HQ2⟩, by simp [intOf]; omega⟩
      have := HG6.out
      rw [← HE.out] at this
      exact this
    · have hge : ¬ (k : Int) < (n1 : Int) := by omega
      have HG2 : Hid (Gr W3 wr u0 T R) := by
        have h1 := HG.out
        have h2 := HQ.out
        rw [List.take_of_length_le (by rw [HL.out]; omega)] at h1 h2
        rw [h2, HTR.out.1, HTR.out.2] at h1
        exact h1
      clear HG HQ
      go_wp2_with fail
      go_ret
      exact ⟨_, rfl, HG2⟩
set_option maxRecDepth 100000 in
set_option maxHeartbeats 2000000 in
theorem putnums_any (W3 w : World) (v : Value) (m : Nat) (L : List Int) (s : Sl) (us : List Nat) (wd : Nat) (hg : Gr W3 w v m L) (hn : URd W3 s us) (hk : ∀ n ∈ us, n ≤ most wd ∧ (wd = 1 ∨ wd = 2 ∨ wd = 4)) (T : Nat) (R : List Int) (hT : m + (us.flatMap (fun n => numB n wd)).length = T) (hR : L ++ us.flatMap (fun n => numB n wd) = R) (hm : T ≤ 65535) :
    Calls Try.prog 55 #[v, .slice s.a s.n s.c, .int .i64 wd] w fun e w' => ∃ v', e = .returned v' ∧ Hid (Gr W3 w' v' T R) := by
  obtain ⟨a1, n1, k1⟩ := s
  have HN : Hid (URd W3 ⟨a1, n1, k1⟩ us ∧ ∀ n ∈ us, n ≤ most wd ∧ (wd = 1 ∨ wd = 2 ∨ wd = 4)) := ⟨hn, hk⟩
  have HL : Hid (us.length = n1) := hn.len
  have hc1 : n1 ≤ 9223372036854775807 := Nat.le_trans hn.cap.1 hn.cap.2
  have HM : Hid (m + (us.flatMap (fun n => numB n wd)).length ≤ 65535) := by show _ ≤ _; omega
  have HTR : Hid (m + (us.flatMap (fun n => numB n wd)).length = T ∧ L ++ us.flatMap (fun n => numB n wd) = R) := ⟨hT, hR⟩
  have HG0 : Hid (Gr W3 w v m (L ++ (us.take 0).flatMap (fun n => numB n wd))) := by show Gr _ _ _ _ _; simpa using hg
  have hm0 : m ≤ 65535 := by omega
  clear hg hn hk hm hT hR
  simp only
  go_enter Try.func55, Try.ntmps55
  go_wp2_with fail
  go_loopw [0, 12] (fun v i wr => ∃ k q : Nat, k ≤ n1 ∧ q ≤ 65535 ∧ i = .int .i64 (k : Int) ∧ Hid (Gr W3 wr v q (L ++ (us.take k).flatMap (fun n => numB n wd))) ∧ Hid (q = m + ((us.take k).flatMap (fun n => numB n wd)).length)) (fun _ i _ => n1 - (intOf i).toNat)
  case atStart => exact ⟨0, m, Nat.zero_le _, hm0, rfl, HG0, by show _ = _; simp⟩
  case round =>
    obtain ⟨k, q, hkn, hq, rfl, HG, HQ⟩ := hrel
    clear HG0
    by_cases hlt : k < n1
    · have hlt' : (k : Int) < (n1 : Int) := by omega
      have hki : k < us.length := by rw [HL.out]; exact hlt
      obtain ⟨B1, o1, ha1, hl1, hz1⟩ := (HN.out.1.below HG.out.bel).at k hki
      simp only at ha1
      subst ha1
      obtain ⟨hu1, hu2⟩ := HN.out.2 _ (List.getElem_mem hki)
      have hub := HN.out.1.bd _ (List.getElem_mem hki)
      have HE0 : (us.take (k + 1)).flatMap (fun n => numB n wd) = (us.take k).flatMap (fun n => numB n wd) ++ numB us[k] wd := flat_snoc (fun n => numB n wd) us k hki
      have HE : Hid (L ++ (us.take (k + 1)).flatMap (fun n => numB n wd) = L ++ (us.take k).flatMap (fun n => numB n wd) ++ numB us[k] wd) := by
        show _ = _
        rw [HE0, List.append_assoc]
      have HNL : Hid ((numB us[k] wd).length = wd) := numB_len _ _ hu2
      have HQ2 : Hid (q + wd = m + ((us.take (k + 1)).flatMap (fun n => numB n wd)).length) := by
        show _ = _
        rw [HE0, List.length_append, HQ.out, HNL.out]
        omega
      have hq2 : q + wd ≤ 65535 := by
        have h1 := HQ2.out
        have h2 := flat_take (fun n => numB n wd) us (k + 1)
        have h3 := HM.out
        omega
      have HNB : Hid ([(us[k] : Int) / 16777216, (us[k] : Int) / 65536 % 256, (us[k] : Int) / 256 % 256, (us[k] : Int) % 256].drop (4 - wd) = numB us[k] wd) := by
        show _ = _
        rcases hu2 with rfl | rfl | rfl
        · simp [most] at hu1; simp [numB]; omega
        · simp [most] at hu1; simp [numB]; omega
        · simp [most] at hu1; simp [numB]
      clear HE0 HQ hu1
      generalize us[k] = u at *
      have hu0 : (0 : Int) ≤ (u : Int) := by omega
      have hu4 : (u : Int) < 4294967296 := by omega
      have hw4 : (4 : Int) - (wd : Int) = ((4 - wd : Nat) : Int) := by omega
      go_wp2_with fail
      refine (put32_yes (u : Int) _ hu0 hu4).mono ?_
      rintro e W5 ⟨rfl, rfl⟩
      have hr := four_rd wr ((u : Int) / 16777216) ((u : Int) / 65536 % 256) ((u : Int) / 256 % 256) ((u : Int) % 256) (by omega) (by omega) (by omega) (by omega)
      have HR5 : Hid (Rd (wr.alloc (.cells #[.int .u8 ((u : Int) / 16777216), .int .u8 ((u : Int) / 65536 % 256), .int .u8 ((u : Int) / 256 % 256), .int .u8 ((u : Int) % 256)] 5)) (some ⟨wr.heap.size, 4 - wd, none⟩) (numB u wd)) := by
        have hc := rd_drop hr (4 - wd)
        rw [Nat.zero_add, HNB.out] at hc
        exact hc
      have HG5 : Hid (Gr W3 (wr.alloc (.cells #[.int .u8 ((u : Int) / 16777216), .int .u8 ((u : Int) / 65536 % 256), .int .u8 ((u : Int) / 256 % 256), .int .u8 ((u : Int) % 256)] 5)) u0 q (L ++ (us.take k).flatMap (fun n => numB n wd))) := HG.out.go ((Below.refl _ _).alloc (Nat.le_refl _) _)
      clear hr HNB
      generalize hWW : wr.alloc (.cells #[.int .u8 ((u : Int) / 16777216), .int .u8 ((u : Int) / 65536 % 256), .int .u8 ((u : Int) / 256 % 256), .int .u8 ((u : Int) % 256)] 5) = W5 at *
      clear hWW
      generalize numB u wd = nb at *
      have HNL2 : Hid (nb.length = 4 - (4 - wd)) := by show _ = _; have := HNL.out; omega
      have e44 : 4 - (4 - wd) = wd := by omega
      have HQ3 : Hid (q + (4 - (4 - wd)) = m + ((us.take (k + 1)).flatMap (fun n => numB n wd)).length) := by rw [e44]; exact HQ2
      have hq3 : q + (4 - (4 - wd)) ≤ 65535 := by omega
      have hwd : 1 ≤ wd ∧ wd ≤ 4 := by omega
      clear hu2 HQ2 HNL e44
      go_wp2_with (at_builtin; refine wp_gr W3 _ rfl _ _ rfl u0 q (L ++ (us.take k).flatMap (fun n => numB n wd)) rfl HG5.out _ _ _ nb rfl HR5.out HNL2.out (fun e => by cases e) (by omega) ?_; intro v6 W6 HG6)
      refine ⟨⟨k + 1, q + (4 - (4 - wd)), by omega, hq3, by go_num, ?_, HQ3⟩, by simp [intOf]; omega⟩
      have := HG6.out
      rw [← HE.out] at this
      exact this
    · have hge : ¬ (k : Int) < (n1 : Int) := by omega
      have HG2 : Hid (Gr W3 wr u0 T R) := by
        have h1 := HG.out
        have h2 := HQ.out
        rw [List.take_of_length_le (by rw [HL.out]; omega)] at h1 h2
        rw [h2, HTR.out.1, HTR.out.2] at h1
        exact h1
      clear HG HQ
      go_wp2_with fail
      go_ret
      exact ⟨_, rfl, HG2⟩
end Go.Proofs.Ytdeoembjfdbbkaa
/- The program's data: texts written one behind the other. -/
namespace Go.Proofs.Ytdeoembjfdbbkaa
open Go.ChangeShapes Go.WideShapes Go.ChangeAt Go.RowKit
set_option linter.unusedVariables false
set_option linter.unusedSimpArgs false

/-- Texts written: the first k with their lengths. -/
def ptB (k : Nat) (l : List ByteArray) : List Int := nby (l.take k) ++ (l.drop k).flatMap nums
theorem ptB_snoc (k : Nat) (m : List ByteArray) (s : ByteArray) : ptB k (m ++ [s]) = ptB k m ++ (if m.length < k then [(s.size : Int)] else []) ++ nums s := by
  unfold ptB
  by_cases h : m.length < k
  · rw [if_pos h, List.take_of_length_le (by simp; omega), List.drop_eq_nil_of_le (by simp; omega), List.take_of_length_le (by omega), List.drop_eq_nil_of_le (by omega), nby_snoc]
    simp
  · rw [if_neg h, List.take_append_of_le_length (by omega), List.drop_append_of_le_length (by omega), List.flatMap_append]
    simp
theorem ptB_len (k : Nat) (l : List ByteArray) : (ptB k l).length = (l.map ByteArray.size).sum + min k l.length := by
  have h1 : ∀ l : List ByteArray, (nby l).length = (l.map ByteArray.size).sum + l.length := by
    intro l
    induction l with
    | nil => simp [nby]
    | cons a l ih =>
      have e : nby (a :: l) = (a.size : Int) :: (nums a ++ nby l) := by simp [nby]
      rw [e]
      simp [ih, nums_len]
      omega
  have h2 : ∀ l : List ByteArray, (l.flatMap nums).length = (l.map ByteArray.size).sum := by
    intro l
    induction l with
    | nil => simp
    | cons a l ih => rw [List.flatMap_cons, List.length_append, ih, nums_len]; simp
  unfold ptB
  rw [List.length_append, h1, h2, List.length_take]
  have h3 : (l.map ByteArray.size).sum = ((l.take k).map ByteArray.size).sum + ((l.drop k).map ByteArray.size).sum := by
    conv => lhs; rw [← List.take_append_drop k l, List.map_append, List.sum_append]
  omega
theorem ptB_take (k j : Nat) (l : List ByteArray) : (ptB k (l.take j)).length ≤ (ptB k l).length := by
  rw [ptB_len, ptB_len, List.map_take, List.length_take]
  have := sum_take' (l.map ByteArray.size) j
  omega
set_option maxRecDepth 100000 in
set_option maxHeartbeats 2000000 in
theorem puttexts_any (W3 w : World) (v : Value) (m : Nat) (L : List Int) (s : Sl) (ss : List ByteArray) (tl kk : Nat) (hg : Gr W3 w v m L) (hn : TRd W3 s ss) (htl : tl ≤ s.n) (hkk : kk = s.n - tl) (hk : ∀ i (h : i < ss.length), i < kk → ss[i].size ≤ 255) (T : Nat) (R : List Int) (hT : m + (ptB kk ss).length = T) (hR : L ++ ptB kk ss = R) (hm : T ≤ 65535) :
    Calls Try.prog 56 #[v, .slice s.a s.n s.c, .int .i64 tl] w fun e w' => ∃ v', e = .returned v' ∧ Hid (Gr W3 w' v' T R) := by
  obtain ⟨a1, n1, k1⟩ := s
  simp only at htl hkk
  have HN : Hid (TRd W3 ⟨a1, n1, k1⟩ ss ∧ ∀ i (h : i < ss.length), i < kk → ss[i].size ≤ 255) := ⟨hn, hk⟩
  have HL : Hid (ss.length = n1) := hn.len
  have hc1 : n1 ≤ 9223372036854775807 := Nat.le_trans hn.cap.1 hn.cap.2
  have HM : Hid (m + (ptB kk ss).length ≤ 65535) := by show _ ≤ _; omega
  have HTR : Hid (m + (ptB kk ss).length = T ∧ L ++ ptB kk ss = R) := ⟨hT, hR⟩
  have HG0 : Hid (Gr W3 w v m (L ++ ptB kk (ss.take 0))) := by show Gr _ _ _ _ _; simpa [ptB, nby] using hg
  have hm0 : m ≤ 65535 := by omega
  have hki : (n1 : Int) - (tl : Int) = (kk : Int) := by omega
  have hkw : IntKind.i64.wrap ((n1 : Int) - (tl : Int)) = (kk : Int) := by rw [hki, IntKind.wrap_i64]; omega
  clear hg hn hk hm hT hR hki hkk htl
  simp only
  go_enter Try.func56, Try.ntmps56
  go_wp2_with fail
  go_loopw [0, 11] (fun v i wr => ∃ k q : Nat, k ≤ n1 ∧ q ≤ 65535 ∧ i = .int .i64 (k : Int) ∧ Hid (Gr W3 wr v q (L ++ ptB kk (ss.take k))) ∧ Hid (q = m + (ptB kk (ss.take k)).length)) (fun _ i _ => n1 - (intOf i).toNat)
  case atStart => exact ⟨0, m, Nat.zero_le _, hm0, rfl, HG0, by show _ = _; simp [ptB, nby]⟩
  case round =>
    obtain ⟨k, q, hkn, hq, rfl, HG, HQ⟩ := hrel
    clear HG0
    by_cases hlt : k < n1
    · have hlt' : (k : Int) < (n1 : Int) := by omega
      have hki : k < ss.length := by rw [HL.out]; exact hlt
      obtain ⟨B1, o1, ha1, hl1, hz1⟩ := (HN.out.1.below HG.out.bel).rd.at k hki
      simp only at ha1
      subst ha1
      have hszk := HN.out.2 k hki
      have HE0 : ptB kk (ss.take (k + 1)) = ptB kk (ss.take k) ++ (if k < kk then [(ss[k].size : Int)] else []) ++ nums ss[k] := by
        rw [List.take_succ_eq_append_getElem hki, ptB_snoc, List.length_take, Nat.min_eq_left (by omega)]
      have hbd := ptB_take kk (k + 1) ss
      generalize ss[k] = s at *
      by_cases hkk : k < kk
      · have hkk' : (k : Int) < (kk : Int) := by omega
        have hs255 := hszk hkk
        rw [if_pos hkk] at HE0
        have HE : Hid (L ++ ptB kk (ss.take (k + 1)) = L ++ ptB kk (ss.take k) ++ [(s.size : Int)] ++ nums s) := by
          show _ = _
          rw [HE0]; simp only [List.append_assoc]
        have HQ2 : Hid (q + 1 + s.size = m + (ptB kk (ss.take (k + 1))).length) := by
          show _ = _
          rw [HE0, List.length_append, List.length_append, HQ.out, nums_len]
          simp only [List.length_cons, List.length_nil]
          omega
        have hq2 : q + 1 + s.size ≤ 65535 := by have h1 := HQ2.out; have h3 := HM.out; omega
        have HG5 : Hid (Gr W3 (wr.alloc (.cells #[.int .u8 (s.size : Int)] 5)) u0 q (L ++ ptB kk (ss.take k))) := HG.out.go ((Below.refl _ _).alloc (Nat.le_refl _) _)
        have HR5 : Hid (Rd (wr.alloc (.cells #[.int .u8 (s.size : Int)] 5)) (some ⟨wr.heap.size, 0, none⟩) [(s.size : Int)]) := new_rd wr _ (by omega)
        have hmod : (s.size : Int) % 256 = (s.size : Int) := by omega
        clear HE0 HQ hbd hszk
        go_wp2_with (at_builtin; first
          | (refine wp_gr W3 _ rfl _ _ rfl u0 q (L ++ ptB kk (ss.take k)) rfl HG5.out (some ⟨wr.heap.size, 0, none⟩) 1 1 [(s.size : Int)] rfl HR5.out rfl (by simp) (by omega) ?_; intro v6 W6 HG6)
          | (refine wp_grs W3 _ rfl _ _ rfl _ (q + 1) (L ++ ptB kk (ss.take k) ++ [(s.size : Int)]) rfl HG6.out s rfl (by omega) ?_; intro v7 W7 HG7))
        refine ⟨⟨k + 1, q + 1 + s.size, by omega, hq2, by go_num, ?_, HQ2⟩, by simp [intOf]; omega⟩
        have := HG7.out
        rw [← HE.out] at this
        exact this
      · have hkk' : ¬ (k : Int) < (kk : Int) := by omega
        rw [if_neg hkk, List.append_nil] at HE0
        have HE : Hid (L ++ ptB kk (ss.take (k + 1)) = L ++ ptB kk (ss.take k) ++ nums s) := by
          show _ = _
          rw [HE0]; simp only [List.append_assoc]
        have HQ2 : Hid (q + s.size = m + (ptB kk (ss.take (k + 1))).length) := by
          show _ = _
          rw [HE0, List.length_append, HQ.out, nums_len]
          omega
        have hq2 : q + s.size ≤ 65535 := by have h1 := HQ2.out; have h3 := HM.out; omega
        clear HE0 HQ hbd hszk
        go_wp2_with (at_builtin; refine wp_grs W3 _ rfl _ _ rfl u0 q (L ++ ptB kk (ss.take k)) rfl HG.out s rfl (by omega) ?_; intro v7 W7 HG7)
        refine ⟨⟨k + 1, q + s.size, by omega, hq2, by go_num, ?_, HQ2⟩, by simp [intOf]; omega⟩
        have := HG7.out
        rw [← HE.out] at this
        exact this
    · have hge : ¬ (k : Int) < (n1 : Int) := by omega
      have HG2 : Hid (Gr W3 wr u0 T R) := by
        have h1 := HG.out
        have h2 := HQ.out
        rw [List.take_of_length_le (by rw [HL.out]; omega)] at h1 h2
        rw [h2, HTR.out.1, HTR.out.2] at h1
        exact h1
      clear HG HQ
      go_wp2_with fail
      go_ret
      exact ⟨_, rfl, HG2⟩
theorem ptB_all (l : List ByteArray) : ptB (l.length - 0) l = nby l := by unfold ptB; simp
/-- What the program writes is what the document writes. -/
theorem wr_eq (t : Nat) (d : Dat) (h : fitsB t d = true) : d.ns.flatMap nmB = (d.ns.take (fs t).nf).flatMap nmB ++ (d.ns.drop (fs t).nf).flatMap nmB ∧ (fs t).nf ≤ d.ns.length ∧ ((fs t).nf = 0 ∨ (fs t).nf = d.ns.length) ∧ (fs t).wd = (shp t).wd ∧ (fs t).tl ≤ d.ts.length ∧
    (d.ns.take (fs t).nf).flatMap nmB ++ d.us.flatMap (fun n => numB n (fs t).wd) ++ (d.ns.drop (fs t).nf).flatMap nmB ++ ptB (d.ts.length - (fs t).tl) d.ts ++ d.raw = writeF t d := by
  refine ⟨by conv => lhs; rw [← List.take_append_drop (fs t).nf d.ns, List.flatMap_append], ?_⟩
  obtain ⟨fns, fus, fts, ft1, fraw, fun_, ftx, ftg⟩ := (fit_iff t d).1 h
  obtain ⟨ns, us, ts, raw⟩ := d
  simp only at fns fus fts ft1 fraw fun_ ftx ftg ⊢
  rcases fs_cases t with ⟨ht, e⟩ | ⟨ht, e⟩ | ⟨ht, e⟩ | ⟨ht, e⟩ | ⟨ht, e⟩ | ⟨ht, e⟩ | ⟨ht, e⟩ | ⟨ht, e⟩ | ⟨ht, e⟩
  · subst ht
    have hts : ts = [] := nil_of (by have e2 : (shp 1).nt = 0 := rfl; omega)
    subst hts
    rw [e]; simp [writeF, tsB, ptB, nby, shp]
  · subst ht
    have hts : ts = [] := nil_of (by have e2 : (shp 28).nt = 0 := rfl; omega)
    subst hts
    rw [e]; simp [writeF, tsB, ptB, nby, shp]
  · rcases ht with rfl | rfl | rfl
    · have hts : ts = [] := nil_of (by have e2 : (shp 2).nt = 0 := rfl; omega)
      subst hts
      rw [e]; simp [writeF, tsB, ptB, nby, shp]
    · have hts : ts = [] := nil_of (by have e2 : (shp 5).nt = 0 := rfl; omega)
      subst hts
      rw [e]; simp [writeF, tsB, ptB, nby, shp]
    · have hts : ts = [] := nil_of (by have e2 : (shp 12).nt = 0 := rfl; omega)
      subst hts
      rw [e]; simp [writeF, tsB, ptB, nby, shp]
  · subst ht
    have hts : ts = [] := nil_of (by have e2 : (shp 6).nt = 0 := rfl; omega)
    have hrw : raw = [] := nil_of (by have e2 : (shp 6).nr = 0 := rfl; omega)
    have hns : ns.length = 2 := fns
    subst hts
    subst hrw
    rw [e]
    refine ⟨by simp; omega, .inr (by simp; omega), rfl, by simp, ?_⟩
    simp only
    rw [List.take_of_length_le (by omega), List.drop_eq_nil_of_le (by omega)]
    simp [writeF, ptB, nby]
  · subst ht
    have hts : ts = [] := nil_of (by have e2 : (shp 15).nt = 0 := rfl; omega)
    subst hts
    rw [e]; simp [writeF, tsB, ptB, nby, shp]
  · subst ht
    have hts : ts = [] := nil_of (by have e2 : (shp 33).nt = 0 := rfl; omega)
    subst hts
    rw [e]; simp [writeF, tsB, ptB, nby, shp]
  · subst ht
    rw [e]; simp [writeF, tsB, ptB, nby, shp]
  · subst ht
    have h2 : ts.length = 2 := by have e2 : (shp 257).nt = 2 := rfl; omega
    rcases ts with _ | ⟨a, _ | ⟨b, _ | ⟨c, ts⟩⟩⟩
    · simp at h2
    · simp at h2
    · rw [e]; simp [writeF, tsB, ptB, nby, shp]
    · simp at h2
  · obtain ⟨h1, h2, h3, h4, h5, h6, h7, h8, h9, h10⟩ := ht
    have es' : shp t = ⟨0, 0, 0, -1, 0⟩ := by unfold shp; simp [h1, h2, h3, h4, h5, h6, h7, h8, h9, h10]
    rw [es'] at fts fns fus
    have hts : ts = [] := nil_of (by simp only at fts; omega)
    subst hts
    rw [e, es']
    simp [writeF, tsB, ptB, nby, h6, es']
end Go.Proofs.Ytdeoembjfdbbkaa
/- The program's data: their bytes. -/
namespace Go.Proofs.Ytdeoembjfdbbkaa
open Go.ChangeShapes Go.WideShapes Go.ChangeAt Go.RowKit
set_option linter.unusedVariables false
set_option linter.unusedSimpArgs false

/-- Bytes of one's own. -/
def WPost (L : List Int) (w : World) (e : Ending) (w' : World) : Prop := ∃ (s : Sl), e = .returned (.slice s.a s.n s.c) ∧ Hid (s.n = L.length ∧ Rd w' s.a L ∧ s.n ≤ s.c ∧ s.c ≤ 9223372036854775807 ∧ (s.a = none → s.c = 0) ∧ Below w.heap.size w w')
theorem Gr.post {w W3 w' : World} {v : Value} {m : Nat} {L : List Int} (h : Gr W3 w' v m L) (hb : Below w.heap.size w W3) : WPost L w (.returned v) w' := by
  obtain ⟨ys, h1, h2, h3, h4⟩ := h
  obtain ⟨ao, rfl, hoa⟩ := h1.addr
  have hrd := hoa.rdTake m
  rw [h2] at hrd
  have hle := hoa.le
  refine ⟨⟨ao, m, ys.length⟩, rfl, h3.symm, hrd, hle.1, by have := hle.2; simp only [maxLen] at this; exact this, fun e => hoa.nil e, hb.trans (h4.mono hb.size)⟩
theorem NRd.front {w : World} {s : Sl} {nss : List (List ByteArray)} (h : NRd w s nss) (k : Nat) (hk : k ≤ s.n) : NRd w ⟨s.a, k, s.c⟩ (nss.take k) := by
  refine ⟨?_, by rw [List.length_take, h.len]; exact Nat.min_eq_left hk, ⟨Nat.le_trans hk h.cap.1, h.cap.2⟩, h.nil⟩
  rcases h.rd with h1 | ⟨b, o, h1, h2, h3⟩
  · left; rw [h1]; simp
  · refine .inr ⟨b, o, h1, h2, fun i hi => ?_⟩
    rw [List.length_take] at hi
    obtain ⟨x, e1, e2⟩ := h3 i (by omega)
    exact ⟨x, e1, by simpa using e2⟩
theorem NRd.none_ (w : World) (a : Option Addr) (c : Nat) (hc : c ≤ 9223372036854775807) (hn : a = none → c = 0) : NRd w ⟨a, 0, c⟩ [] := ⟨.inl rfl, rfl, ⟨Nat.zero_le _, hc⟩, hn⟩
set_option maxRecDepth 100000 in
set_option maxHeartbeats 4000000 in
theorem write_yes (t : Nat) (x : DA) (d : Dat) (w : World) (h : DRd w x d) (hck : checkF t d = 0) (hB : Bd d) :
    Calls Try.prog 36 #[.agg #[.int .i64 (fs t).nn, .int .i64 (fs t).nf, .int .i64 (fs t).nu, .int .i64 (fs t).wd, .int .i64 (fs t).nt, .int .i64 (fs t).tg, .int .i64 (fs t).tl, .int .i64 (fs t).nr], .agg #[.slice x.p1.a x.p1.n x.p1.c, .slice x.p2.a x.p2.n x.p2.c, .slice x.p3.a x.p3.n x.p3.c, .slice x.p4.a x.p4.n x.p4.c]] w (WPost (writeF t d) w) := by
  have H : Hid (PtSt w ((w.alloc (.cells #[.int .i64 (fs t).nn, .int .i64 (fs t).nf, .int .i64 (fs t).nu, .int .i64 (fs t).wd, .int .i64 (fs t).nt, .int .i64 (fs t).tg, .int .i64 (fs t).tl, .int .i64 (fs t).nr] 58)).alloc (.cells #[.slice x.p1.a x.p1.n x.p1.c, .slice x.p2.a x.p2.n x.p2.c, .slice x.p3.a x.p3.n x.p3.c, .slice x.p4.a x.p4.n x.p4.c] 29)) w.heap.size (fs t) x d) := PtSt.new w (fs t) x d h
  obtain ⟨hm, hf, hnk, hsz⟩ := check_parts hck
  have hwr := wrt_of hck
  obtain ⟨hq1, hq2, hq3, hq4, hq5, hq6⟩ := wr_eq t d hf
  have HW : Hid (∀ W, DRd W x d → Calls Try.prog 43 #[.agg #[.int .i64 (fs t).nn, .int .i64 (fs t).nf, .int .i64 (fs t).nu, .int .i64 (fs t).wd, .int .i64 (fs t).nt, .int .i64 (fs t).tg, .int .i64 (fs t).tl, .int .i64 (fs t).nr], .agg #[.slice x.p1.a x.p1.n x.p1.c, .slice x.p2.a x.p2.n x.p2.c, .slice x.p3.a x.p3.n x.p3.c, .slice x.p4.a x.p4.n x.p4.c]] W fun e w' => e = .returned (.int .i64 (sizesF t d : Nat)) ∧ Hid (Below W.heap.size W w')) := by
    intro W hd
    rw [← psz_eq t d hf]
    refine psize5_any (fs t) x d W hd (fs_tl t) ?_
    have h5 : nsum d ≤ 1000 * 255 := by
      have := sum_le (d.ns.map nsz) 255 (by
        intro y hy
        obtain ⟨n, hn, rfl⟩ := List.mem_map.1 hy
        exact (nck_small (hnk n hn)).1)
      rw [List.length_map] at this
      have h6 : d.ns.length * 255 ≤ 1000 * 255 := Nat.mul_le_mul_right _ hB.n
      unfold nsum
      omega
    have h7 : (fs t).wd * d.us.length ≤ 4 * 1000 := Nat.mul_le_mul (by have := fs_wd t; omega) hB.u
    have h8 := hB.t
    have h9 := hB.r
    omega
  have hwl : (writeF t d).length ≤ 65535 := by
    rw [← hq6]
    have h1 := hwr.sz
    rw [hq1, ← hq4] at h1
    have h2 : (ptB (d.ts.length - (fs t).tl) d.ts).length = (tsB t d.ts).length := by
      have e1 := congrArg List.length hq6
      unfold writeF at e1
      by_cases h6 : t = 6
      · obtain ⟨_, e2, e3⟩ := hwr.soa h6
        rw [e2]; simp [ptB, tsB, nby]
      · rw [if_neg h6, hq1, hq4] at e1
        simp only [List.length_append] at e1
        omega
    simp only [List.length_append] at h1 ⊢
    omega
  have HNK : Hid (∀ n ∈ d.ns, nck n = 0) := hnk
  have HNU : Hid (∀ n ∈ d.us, n ≤ most (fs t).wd ∧ ((fs t).wd = 1 ∨ (fs t).wd = 2 ∨ (fs t).wd = 4)) := by rw [hq4]; exact hwr.nu
  have HTX : Hid (∀ i (h : i < d.ts.length), i < d.ts.length - (fs t).tl → d.ts[i].size ≤ 255) := by
    intro i hi hlt
    refine hwr.tx i hi ?_
    rcases fs_cases t with ⟨ht, e⟩ | ⟨ht, e⟩ | ⟨ht, e⟩ | ⟨ht, e⟩ | ⟨ht, e⟩ | ⟨ht, e⟩ | ⟨ht, e⟩ | ⟨ht, e⟩ | ⟨ht, e⟩
    all_goals first
      | exact .inl ht
      | (right
         obtain ⟨fns, fus, fts, ft1, fraw, fun_, ftx, ftg⟩ := (fit_iff t d).1 hf
         first
         | (rcases ht with rfl | rfl | rfl <;> (rw [e] at hlt; simp only at hlt; first | (have e2 : (shp 2).nt = 0 := rfl; omega) | (have e2 : (shp 5).nt = 0 := rfl; omega) | (have e2 : (shp 12).nt = 0 := rfl; omega)))
         | (subst ht; rw [e] at hlt; simp only at hlt; first | (have e2 : (shp 1).nt = 0 := rfl; omega) | (have e2 : (shp 28).nt = 0 := rfl; omega) | (have e2 : (shp 6).nt = 0 := rfl; omega) | (have e2 : (shp 15).nt = 0 := rfl; omega) | (have e2 : (shp 33).nt = 0 := rfl; omega) | (have e2 : (shp 257).nt = 2 := rfl; omega))
         | (obtain ⟨h1, h2, h3, h4, h5, h6, h7, h8, h9, h10⟩ := ht
            have es' : shp t = ⟨0, 0, 0, -1, 0⟩ := by unfold shp; simp [h1, h2, h3, h4, h5, h6, h7, h8, h9, h10]
            rw [es'] at fts; simp only at fts; omega))
  have HD : Hid (DRd w x d) := h
  have l1 := h.h1.len
  have l3 := h.h3.len
  have l4 := h.h4.len
  have HC1 : Hid (x.p1.n ≤ x.p1.c ∧ x.p1.c ≤ 9223372036854775807 ∧ (x.p1.a = none → x.p1.c = 0)) := ⟨h.h1.cap.1, h.h1.cap.2, h.h1.nil⟩
  clear h hck hwr hm hnk hq1 hf hB hq4
  obtain ⟨R, hR⟩ : ∃ R, writeF t d = R := ⟨_, rfl⟩
  rw [hR] at hq6 hwl ⊢
  generalize hszz : sizesF t d = Z at *
  clear hszz hR
  generalize (fs t) = f at *
  obtain ⟨nn, nf, nu, wd, nt, tg, tl, nr⟩ := f
  obtain ⟨⟨a1, n1, k1⟩, ⟨a2, n2, k2⟩, ⟨a3, n3, k3⟩, ⟨a4, n4, k4⟩⟩ := x
  simp only at H HW HNU HTX l1 l3 l4 hq2 hq3 hq5 hq6 HC1 ⊢
  rw [l1] at hq2 hq3
  rw [l3] at hq5
  have HQ6 : Hid ((d.ns.take nf).flatMap nmB ++ d.us.flatMap (fun n => numB n wd) ++ (d.ns.drop nf).flatMap nmB ++ ptB (n3 - tl) d.ts ++ d.raw = R) := by rw [l3] at hq6; exact hq6
  have HLL : Hid (d.ns.length = n1 ∧ d.ts.length = n3 ∧ d.raw.length = n4) := ⟨l1, l3, l4⟩
  have HTX2 : Hid (∀ i (h : i < d.ts.length), i < n3 - tl → d.ts[i].size ≤ 255) := fun i hi hlt => HTX.out i hi (by rw [l3]; exact hlt)
  have hR6 : R.length ≤ 65535 := hwl
  have hcap := HC1.out
  clear l1 l3 l4 hq6 HTX hwl HC1
  have HRL : Hid (((d.ns.take nf).flatMap nmB).length + (d.us.flatMap (fun n => numB n wd)).length + ((d.ns.drop nf).flatMap nmB).length + (ptB (n3 - tl) d.ts).length + n4 = R.length) := by
    have := congrArg List.length HQ6.out
    simp only [List.length_append] at this
    rw [HLL.out.2.2] at this
    exact this
  go_enter Try.func36, Try.ntmps36
  go_upto_region 1 with fail
  generalize ((w.alloc (.cells #[.int .i64 nn, .int .i64 nf, .int .i64 nu, .int .i64 wd, .int .i64 nt, .int .i64 tg, .int .i64 tl, .int .i64 nr] 58)).alloc (.cells #[.slice a1 n1 k1, .slice a2 n2 k2, .slice a3 n3 k3, .slice a4 n4 k4] 29)) = W1 at *
  obtain ⟨b, hb⟩ : ∃ b, b = w.heap.size := ⟨_, rfl⟩
  rw [← hb] at H ⊢
  have Hb : Hid (b = w.heap.size) := hb
  clear hb
  obtain ⟨s0, s1, s2, s3, s4, s5, s6, s7, _⟩ := H.out.1
  have c0 := H.out.2.1.1
  have c1 := H.out.2.1.2.1
  have c2 := H.out.2.1.2.2.1
  have c3 := H.out.2.1.2.2.2.1
  simp only at s0 s1 s2 s3 s4 s5 s6 s7 c0 c1 c2 c3
  go_wp2_with fail
  refine (HW.out _ H.out.2.2.1).mono ?_
  rintro e W2 ⟨rfl, H2⟩
  have H3 : Hid (PtSt w W2 b ⟨nn, nf, nu, wd, nt, tg, tl, nr⟩ ⟨⟨a1, n1, k1⟩, ⟨a2, n2, k2⟩, ⟨a3, n3, k3⟩, ⟨a4, n4, k4⟩⟩ d) := H.out.go H2.out
  clear H H2 HW s0 s1 s2 s3 s4 s5 s6 s7 c0 c1 c2 c3
  go_upto_region 2 with (at_make; refine wpList_make_blk _ rfl _ _ rfl 0 Z _ _ rfl rfl rfl rfl (by omega) (by omega) ?_)
  have HG0 : Hid (Gr W2 (W2.alloc (.cells (Array.replicate Z (Value.int .u8 0)) 5)) (.slice (some ⟨W2.heap.size, 0, none⟩) 0 Z) 0 []) := by
    refine ⟨List.replicate Z 0, .inr ⟨W2.heap.size, by simp, Nat.le_refl _, ⟨(heap_alloc_new _ _).trans (by simp), ?_⟩, by simp, by unfold maxLen; simp; omega⟩, by simp, rfl, (Below.refl _ _).alloc (Nat.le_refl _) _⟩
    intro z hz
    rw [List.eq_of_mem_replicate hz]
    omega
  have HF : Hid (∀ W, Below W2.heap.size W2 W → PtSt w W b ⟨nn, nf, nu, wd, nt, tg, tl, nr⟩ ⟨⟨a1, n1, k1⟩, ⟨a2, n2, k2⟩, ⟨a3, n3, k3⟩, ⟨a4, n4, k4⟩⟩ d) := fun W hW => H3.out.go hW
  clear H3
  generalize W2.alloc (.cells (Array.replicate Z (Value.int .u8 0)) 5) = Wa at *
  generalize (some ⟨W2.heap.size, 0, none⟩ : Option Addr) = av at *
  have s1 := (HF.out Wa HG0.out.bel).1.2.1
  have c0 := (HF.out Wa HG0.out.bel).2.1.1
  simp only at s1 c0
  have KN : Hid (∀ (v : Value) (W : World) (m T : Nat) (L R' : List Int), Gr W2 W v m L → m + ((d.ns.take nf).flatMap nmB).length = T → L ++ (d.ns.take nf).flatMap nmB = R' → T ≤ 65535 → Calls Try.prog 54 #[v, .slice a1 nf k1] W fun e w' => ∃ v', e = .returned v' ∧ Hid (Gr W2 w' v' T R')) := by
    intro v W m T L R' hg hT hR' hb
    have := ((HF.out W2 (Below.refl _ _)).2.2.1.h1).front nf hq2
    exact putnames_any W2 W v m L ⟨a1, nf, k1⟩ (d.ns.take nf) hg this (fun n hn => HNK.out n (List.mem_of_mem_take hn)) T R' hT hR' hb
  obtain ⟨A1, hA1⟩ : ∃ A, ((d.ns.take nf).flatMap nmB) = A := ⟨_, rfl⟩
  obtain ⟨A2, hA2⟩ : ∃ A, (d.us.flatMap (fun n => numB n wd)) = A := ⟨_, rfl⟩
  obtain ⟨A3, hA3⟩ : ∃ A, ((d.ns.drop nf).flatMap nmB) = A := ⟨_, rfl⟩
  obtain ⟨A4, hA4⟩ : ∃ A, ptB (n3 - tl) d.ts = A := ⟨_, rfl⟩
  have KU : Hid (∀ (v : Value) (W : World) (m : Nat) (L : List Int), Gr W2 W v m L → m + A2.length ≤ 65535 → Calls Try.prog 55 #[v, .slice a2 n2 k2, .int .i64 wd] W fun e w' => ∃ v', e = .returned v' ∧ Hid (Gr W2 w' v' (m + A2.length) (L ++ A2))) := by
    intro v W m L hg hb
    subst hA2
    exact putnums_any W2 W v m L ⟨a2, n2, k2⟩ d.us wd hg (HF.out W2 (Below.refl _ _)).2.2.1.h2 HNU.out _ _ rfl rfl hb
  have KT : Hid (∀ (v : Value) (W : World) (m : Nat) (L : List Int), Gr W2 W v m L → m + A4.length ≤ 65535 → Calls Try.prog 56 #[v, .slice a3 n3 k3, .int .i64 tl] W fun e w' => ∃ v', e = .returned v' ∧ Hid (Gr W2 w' v' (m + A4.length) (L ++ A4))) := by
    intro v W m L hg hb
    subst hA4
    exact puttexts_any W2 W v m L ⟨a3, n3, k3⟩ d.ts tl (n3 - tl) hg (HF.out W2 (Below.refl _ _)).2.2.1.h3 hq5 rfl HTX2.out _ _ rfl rfl hb
  have KN2 : Hid (∀ (v : Value) (W : World) (m : Nat) (L : List Int), Gr W2 W v m L → m + A1.length ≤ 65535 → Calls Try.prog 54 #[v, .slice a1 nf k1] W fun e w' => ∃ v', e = .returned v' ∧ Hid (Gr W2 w' v' (m + A1.length) (L ++ A1))) := by
    intro v W m L hg hb
    exact KN.out v W m (m + A1.length) L (L ++ A1) hg (by rw [hA1]) (by rw [hA1]) hb
  have KB : Hid (∀ (s : Sl) (v : Value) (W : World) (m : Nat) (L : List Int), NRd W2 s (d.ns.drop nf) → Gr W2 W v m L → m + A3.length ≤ 65535 → Calls Try.prog 54 #[v, .slice s.a s.n s.c] W fun e w' => ∃ v', e = .returned v' ∧ Hid (Gr W2 w' v' (m + A3.length) (L ++ A3))) := by
    intro s v W m L hs hg hb
    subst hA3
    exact putnames_any W2 W v m L s (d.ns.drop nf) hg hs (fun n hn => HNK.out n (List.mem_of_mem_drop hn)) _ _ rfl rfl hb
  have hr := HRL.out
  have h6 := HQ6.out
  rw [hA1, hA2, hA3, hA4] at hr h6
  have HR : Hid (A1.length + A2.length + A3.length + A4.length + n4 = R.length ∧ A1 ++ A2 ++ A3 ++ A4 ++ d.raw = R) := ⟨hr, h6⟩
  have hb1 : 0 + A1.length ≤ 65535 := by omega
  have hb2 : 0 + A1.length + A2.length ≤ 65535 := by omega
  have hb3 : 0 + A1.length + A2.length + A3.length ≤ 65535 := by omega
  have hb4 : 0 + A1.length + A2.length + A3.length + A4.length ≤ 65535 := by omega
  have hb5 : 0 + A1.length + A2.length + A3.length + A4.length + n4 ≤ 65535 := by omega
  clear hr h6 hA1 hA2 hA3 hA4 KN HRL HQ6 HNK HNU HTX2
  obtain ⟨q1, hq1⟩ : ∃ q, 0 + A1.length = q := ⟨_, rfl⟩
  obtain ⟨q2, hq2'⟩ : ∃ q, q1 + A2.length = q := ⟨_, rfl⟩
  obtain ⟨q3, hq3'⟩ : ∃ q, q2 + A3.length = q := ⟨_, rfl⟩
  obtain ⟨q4, hq4'⟩ : ∃ q, q3 + A4.length = q := ⟨_, rfl⟩
  have HQQ : Hid (0 + A1.length = q1 ∧ q1 + A2.length = q2 ∧ q2 + A3.length = q3 ∧ q3 + A4.length = q4 ∧ q4 + n4 = R.length) := ⟨hq1, hq2', hq3', hq4', by have := HR.out.1; omega⟩
  have K1 : Hid (Calls Try.prog 54 #[.slice av 0 Z, .slice a1 nf k1] Wa fun e w' => ∃ v', e = .returned v' ∧ Hid (Gr W2 w' v' q1 ([] ++ A1))) := by
    have := KN2.out (.slice av 0 Z) Wa 0 [] HG0.out hb1
    rw [hq1] at this
    exact this
  have HC4 : Hid (q4 + n4 ≤ 65535) := by show _ ≤ _; omega
  clear hb1 hb2 hb3 hb4 hb5 hq1 hq2' hq3' hq4' KN2 hR6
  have hnf63 : nf ≤ 9223372036854775807 := by omega
  go_wp2_with fail
  refine K1.out.mono ?_
  rintro e W3 ⟨v1, rfl, HG1⟩
  clear K1 HG0 s1 c0
  have s3 := (HF.out W3 HG1.out.bel).1.2.2.2.1
  have c1 := (HF.out W3 HG1.out.bel).2.1.2.1
  simp only at s3 c1
  have K2 : Hid (Calls Try.prog 55 #[v1, .slice a2 n2 k2, .int .i64 wd] W3 fun e w' => ∃ v', e = .returned v' ∧ Hid (Gr W2 w' v' q2 ([] ++ A1 ++ A2))) := by
    have := KU.out v1 W3 q1 ([] ++ A1) HG1.out (by have := HQQ.out; have := HC4.out; omega)
    rw [HQQ.out.2.1] at this
    exact this
  clear KU
  go_wp2_with fail
  refine K2.out.mono ?_
  rintro e W4 ⟨v2, rfl, HG2⟩
  clear K2 HG1 s3 c1
  have s1 := (HF.out W4 HG2.out.bel).1.2.1
  have c0 := (HF.out W4 HG2.out.bel).2.1.1
  simp only at s1 c0
  have HND : Hid (∀ s : Sl, s.n = n1 - nf → s.c ≤ 9223372036854775807 → (s.a = none → s.c = 0) → (nf = 0 → s = ⟨a1, n1, k1⟩) → NRd W2 s (d.ns.drop nf)) := by
    intro s h1 h2 h3 h4
    have hn := (HF.out W2 (Below.refl _ _)).2.2.1.h1
    by_cases h0 : nf = 0
    · rw [h4 h0, h0]; exact hn
    · have h5 : nf = n1 := hq3.resolve_left h0
      obtain ⟨sa, sn, sc⟩ := s
      simp only at h1 h2 h3
      have h6 : sn = 0 := by omega
      subst h6
      rw [List.drop_eq_nil_of_le (by rw [HLL.out.1]; omega)]
      exact NRd.none_ W2 sa sc h2 h3
  have K3 : Hid (∀ s : Sl, s.n = n1 - nf → s.c ≤ 9223372036854775807 → (s.a = none → s.c = 0) → (nf = 0 → s = ⟨a1, n1, k1⟩) → Calls Try.prog 54 #[v2, .slice s.a s.n s.c] W4 fun e w' => ∃ v', e = .returned v' ∧ Hid (Gr W2 w' v' q3 ([] ++ A1 ++ A2 ++ A3))) := by
    intro s h1 h2 h3 h4
    have := KB.out s v2 W4 q2 ([] ++ A1 ++ A2) (HND.out s h1 h2 h3 h4) HG2.out (by have := HQQ.out; have := HC4.out; omega)
    rw [HQQ.out.2.2.1] at this
    exact this
  clear KB HND
  have K4 : Hid (∀ v W, Gr W2 W v q3 ([] ++ A1 ++ A2 ++ A3) → Calls Try.prog 56 #[v, .slice a3 n3 k3, .int .i64 tl] W fun e w' => ∃ v', e = .returned v' ∧ Hid (Gr W2 w' v' q4 ([] ++ A1 ++ A2 ++ A3 ++ A4))) := by
    intro v W hg
    have := KT.out v W q3 ([] ++ A1 ++ A2 ++ A3) hg (by have := HQQ.out; have := HC4.out; omega)
    rw [HQQ.out.2.2.2.1] at this
    exact this
  clear KT
  have HEND : Hid (∀ v W, Gr W2 W v (q4 + n4) ([] ++ A1 ++ A2 ++ A3 ++ A4 ++ d.raw) → WPost R w (.returned v) W) := by
    intro v W hg
    rw [List.nil_append, HR.out.2] at hg
    have hbw : Below w.heap.size w W2 := by
      have := (HF.out W2 (Below.refl _ _)).2.2.2
      exact this
    exact hg.post hbw
  have hn4 := HC4.out
  go_wp2_with fail
  · refine (K3.out ⟨a1, n1 - nf, 0⟩ rfl (Nat.zero_le _) (fun _ => rfl) (fun e => ?_)).mono ?_
    · have h1 := hcap.1
      subst e
      simp
      omega
    rintro e W5 ⟨v3, rfl, HG3⟩
    clear K3 s1 c0
    have s6 := (HF.out W5 HG3.out.bel).1.2.2.2.2.2.2.1
    have c2 := (HF.out W5 HG3.out.bel).2.1.2.2.1
    simp only at s6 c2
    go_wp2_with fail
    refine (K4.out _ _ HG3.out).mono ?_
    rintro e W6 ⟨v4, rfl, HG4⟩
    have c3 := (HF.out W6 HG4.out.bel).2.1.2.2.2.1
    have hraw := (HF.out W6 HG4.out.bel).2.2.1.h4
    have HRW : Hid (Rd W6 a4 d.raw ∧ (a4 = none → k4 = 0)) := ⟨hraw.rd, hraw.nil⟩
    simp only at c3
    clear hraw s6 c2 K4 HG3
    go_wp2_with (at_builtin; refine wp_gr W2 _ rfl _ _ rfl v4 q4 ([] ++ A1 ++ A2 ++ A3 ++ A4) rfl HG4.out a4 n4 k4 d.raw rfl HRW.out.1 HLL.out.2.2 HRW.out.2 (by omega) ?_; intro v6 W6 HG6)
    go_ret
    exact HEND.out _ _ HG6.out
  · refine (K3.out ⟨Option.map (fun x => x.add nf) a1, n1 - nf, k1 - nf⟩ rfl (by show k1 - nf ≤ _; omega) (fun e => ?_) (fun e => ?_)).mono ?_
    · simp only [Option.map_eq_none_iff] at e
      have := hcap.2.2 e
      show k1 - nf = 0
      omega
    · subst e
      cases a1 <;> simp [Addr.add]
    rintro e W5 ⟨v3, rfl, HG3⟩
    clear K3 s1 c0
    have s6 := (HF.out W5 HG3.out.bel).1.2.2.2.2.2.2.1
    have c2 := (HF.out W5 HG3.out.bel).2.1.2.2.1
    simp only at s6 c2
    go_wp2_with fail
    refine (K4.out _ _ HG3.out).mono ?_
    rintro e W6 ⟨v4, rfl, HG4⟩
    have c3 := (HF.out W6 HG4.out.bel).2.1.2.2.2.1
    have hraw := (HF.out W6 HG4.out.bel).2.2.1.h4
    have HRW : Hid (Rd W6 a4 d.raw ∧ (a4 = none → k4 = 0)) := ⟨hraw.rd, hraw.nil⟩
    simp only at c3
    clear hraw s6 c2 K4 HG3
    go_wp2_with (at_builtin; refine wp_gr W2 _ rfl _ _ rfl v4 q4 ([] ++ A1 ++ A2 ++ A3 ++ A4) rfl HG4.out a4 n4 k4 d.raw rfl HRW.out.1 HLL.out.2.2 HRW.out.2 (by omega) ?_; intro v6 W6 HG6)
    go_ret
    exact HEND.out _ _ HG6.out

set_option maxRecDepth 100000 in
set_option maxHeartbeats 4000000 in
/-- Data's bytes, or just their error. -/
theorem bytes5_any (t : Nat) (x : DA) (d : Dat) (w : World) (h : DRd w x d) (hB : Bd d) :
    Calls Try.prog 10 #[.int .u16 t, .agg #[.slice x.p1.a x.p1.n x.p1.c, .slice x.p2.a x.p2.n x.p2.c, .slice x.p3.a x.p3.n x.p3.c, .slice x.p4.a x.p4.n x.p4.c]] w (fun e w' => ∃ (s : Sl), e = .returned (.tuple #[.slice s.a s.n s.c, .int .i64 (checkF t d)]) ∧ Hid (s.n ≤ s.c ∧ s.c ≤ 9223372036854775807 ∧ (s.a = none → s.c = 0) ∧ (checkF t d = 0 → s.n = (writeF t d).length ∧ Rd w' s.a (writeF t d)) ∧ (checkF t d ≠ 0 → s = ⟨none, 0, 0⟩) ∧ Below w.heap.size w w')) := by
  have hb0 : Below w.heap.size w (w.alloc (.cells #[.slice x.p1.a x.p1.n x.p1.c, .slice x.p2.a x.p2.n x.p2.c, .slice x.p3.a x.p3.n x.p3.c, .slice x.p4.a x.p4.n x.p4.c] 29)) := (Below.refl _ _).alloc (Nat.le_refl _) _
  have H : Hid (DBox (w.alloc (.cells #[.slice x.p1.a x.p1.n x.p1.c, .slice x.p2.a x.p2.n x.p2.c, .slice x.p3.a x.p3.n x.p3.c, .slice x.p4.a x.p4.n x.p4.c] 29)) w.heap.size x ∧ DRd (w.alloc (.cells #[.slice x.p1.a x.p1.n x.p1.c, .slice x.p2.a x.p2.n x.p2.c, .slice x.p3.a x.p3.n x.p3.c, .slice x.p4.a x.p4.n x.p4.c] 29)) x d ∧ Below w.heap.size w (w.alloc (.cells #[.slice x.p1.a x.p1.n x.p1.c, .slice x.p2.a x.p2.n x.p2.c, .slice x.p3.a x.p3.n x.p3.c, .slice x.p4.a x.p4.n x.p4.c] 29))) := ⟨DBox.new w x, h.below hb0, hb0⟩
  have KC : Hid (∀ W, DRd W x d → Calls Try.prog 13 #[.int .u16 t, .agg #[.slice x.p1.a x.p1.n x.p1.c, .slice x.p2.a x.p2.n x.p2.c, .slice x.p3.a x.p3.n x.p3.c, .slice x.p4.a x.p4.n x.p4.c]] W fun e w' => e = .returned (.int .i64 (checkF t d)) ∧ Hid (Below W.heap.size W w')) := fun W hd => check_any t x d W hd hB
  have KO : Hid (∀ W, Calls Try.prog 35 #[.int .u16 t] W fun e w' => e = .returned (.agg #[.int .i64 (fs t).nn, .int .i64 (fs t).nf, .int .i64 (fs t).nu, .int .i64 (fs t).wd, .int .i64 (fs t).nt, .int .i64 (fs t).tg, .int .i64 (fs t).tl, .int .i64 (fs t).nr]) ∧ Hid (Below W.heap.size W w')) := fun W => fieldsof_any t W
  have KW : Hid (checkF t d = 0 → ∀ W, DRd W x d → Calls Try.prog 36 #[.agg #[.int .i64 (fs t).nn, .int .i64 (fs t).nf, .int .i64 (fs t).nu, .int .i64 (fs t).wd, .int .i64 (fs t).nt, .int .i64 (fs t).tg, .int .i64 (fs t).tl, .int .i64 (fs t).nr], .agg #[.slice x.p1.a x.p1.n x.p1.c, .slice x.p2.a x.p2.n x.p2.c, .slice x.p3.a x.p3.n x.p3.c, .slice x.p4.a x.p4.n x.p4.c]] W (WPost (writeF t d) W)) := fun hc W hd => write_yes t x d W hd hc hB
  clear h hb0 hB
  generalize writeF t d = R at *
  generalize checkF t d = C at *
  generalize (fs t) = f at *
  obtain ⟨nn, nf, nu, wd, nt, tg, tl, nr⟩ := f
  obtain ⟨⟨a1, n1, k1⟩, ⟨a2, n2, k2⟩, ⟨a3, n3, k3⟩, ⟨a4, n4, k4⟩⟩ := x
  simp only at H KC KO KW ⊢
  go_enter Try.func10, Try.ntmps10
  go_upto_region 1 with fail
  generalize (w.alloc (.cells #[.slice a1 n1 k1, .slice a2 n2 k2, .slice a3 n3 k3, .slice a4 n4 k4] 29)) = W1 at *
  obtain ⟨b, hb⟩ : ∃ b, b = w.heap.size := ⟨_, rfl⟩
  rw [← hb] at H ⊢
  have Hb : Hid (b = w.heap.size) := hb
  clear hb
  have c0 := H.out.1.1
  have c1 := H.out.1.2.1
  have c2 := H.out.1.2.2.1
  have c3 := H.out.1.2.2.2.1
  simp only at c0 c1 c2 c3
  go_wp2_with fail
  refine (KC.out _ H.out.2.1).mono ?_
  rintro e W2 ⟨rfl, H2⟩
  have H3 : Hid (DBox W2 b ⟨⟨a1, n1, k1⟩, ⟨a2, n2, k2⟩, ⟨a3, n3, k3⟩, ⟨a4, n4, k4⟩⟩ ∧ DRd W2 ⟨⟨a1, n1, k1⟩, ⟨a2, n2, k2⟩, ⟨a3, n3, k3⟩, ⟨a4, n4, k4⟩⟩ d ∧ Below w.heap.size w W2) := ⟨H.out.1.below H2.out, H.out.2.1.below H2.out, by have := H.out.2.2; rw [Hb.out] at this; exact this.trans (H2.out.mono this.size)⟩
  clear H H2 KC c0 c1 c2 c3
  by_cases hC : C = 0
  · have hC' : (C != 0) = false := by simp [hC]
    have KW2 : Hid (∀ W, DRd W ⟨⟨a1, n1, k1⟩, ⟨a2, n2, k2⟩, ⟨a3, n3, k3⟩, ⟨a4, n4, k4⟩⟩ d → Calls Try.prog 36 #[.agg #[.int .i64 nn, .int .i64 nf, .int .i64 nu, .int .i64 wd, .int .i64 nt, .int .i64 tg, .int .i64 tl, .int .i64 nr], .agg #[.slice a1 n1 k1, .slice a2 n2 k2, .slice a3 n3 k3, .slice a4 n4 k4]] W (WPost R W)) := KW.out hC
    clear KW
    have HC0 : Hid (C = 0) := hC
    clear hC
    have c0 := H3.out.1.1
    have c1 := H3.out.1.2.1
    have c2 := H3.out.1.2.2.1
    have c3 := H3.out.1.2.2.2.1
    have hbl := H3.out.1.2.2.2.2
    simp only at c0 c1 c2 c3
    go_wp2_with fail
    go_region_held3 (fun W => W.cell? ⟨b, 0, none⟩ = some (.slice a1 n1 k1) ∧ W.cell? ⟨b, 1, none⟩ = some (.slice a2 n2 k2) ∧ W.cell? ⟨b, 2, none⟩ = some (.slice a3 n3 k3) ∧ W.cell? ⟨b, 3, none⟩ = some (.slice a4 n4 k4)) (exact ⟨by go_keep, by go_keep, by go_keep, by go_keep⟩) (first
      | (go_at_call 35; refine (KO.out _).mono ?_; rintro e W5 ⟨rfl, H5⟩; have HD5 : Hid (DRd W5 ⟨⟨a1, n1, k1⟩, ⟨a2, n2, k2⟩, ⟨a3, n3, k3⟩, ⟨a4, n4, k4⟩⟩ d ∧ Below w.heap.size w W5 ∧ b < W5.heap.size) := ⟨(H3.out.2.1.below (Below.refl _ _).drew).below H5.out, (H3.out.2.2.trans ((Below.refl _ _).drew.mono H3.out.2.2.size)).trans (H5.out.mono H3.out.2.2.size), Nat.lt_of_lt_of_le hbl H5.out.size⟩; have e0 : W5.cell? ⟨b, 0, none⟩ = some (.slice a1 n1 k1) := (H5.out.cell (p := ⟨b, 0, none⟩) hbl).trans c0; have e1 : W5.cell? ⟨b, 1, none⟩ = some (.slice a2 n2 k2) := (H5.out.cell (p := ⟨b, 1, none⟩) hbl).trans c1; have e2 : W5.cell? ⟨b, 2, none⟩ = some (.slice a3 n3 k3) := (H5.out.cell (p := ⟨b, 2, none⟩) hbl).trans c2; have e3 : W5.cell? ⟨b, 3, none⟩ = some (.slice a4 n4 k4) := (H5.out.cell (p := ⟨b, 3, none⟩) hbl).trans c3)
      | (go_at_call 36; refine (KW2.out _ HD5.out.1).mono ?_; rintro e W6 ⟨s6, rfl, H6⟩; have HE6 : Hid (s6.n = R.length ∧ Rd W6 s6.a R ∧ s6.n ≤ s6.c ∧ s6.c ≤ 9223372036854775807 ∧ (s6.a = none → s6.c = 0) ∧ Below w.heap.size w W6) := ⟨H6.out.1, H6.out.2.1, H6.out.2.2.1, H6.out.2.2.2.1, H6.out.2.2.2.2.1, HD5.out.2.1.trans (H6.out.2.2.2.2.2.mono HD5.out.2.1.size)⟩; have f0 : W6.cell? ⟨b, 0, none⟩ = some (.slice a1 n1 k1) := (H6.out.2.2.2.2.2.cell (p := ⟨b, 0, none⟩) HD5.out.2.2).trans e0; have f1 : W6.cell? ⟨b, 1, none⟩ = some (.slice a2 n2 k2) := (H6.out.2.2.2.2.2.cell (p := ⟨b, 1, none⟩) HD5.out.2.2).trans e1; have f2 : W6.cell? ⟨b, 2, none⟩ = some (.slice a3 n3 k3) := (H6.out.2.2.2.2.2.cell (p := ⟨b, 2, none⟩) HD5.out.2.2).trans e2; have f3 : W6.cell? ⟨b, 3, none⟩ = some (.slice a4 n4 k4) := (H6.out.2.2.2.2.2.cell (p := ⟨b, 3, none⟩) HD5.out.2.2).trans e3))
    obtain ⟨g1, g2, g3, g4, g5, g6⟩ := HE6.out
    go_wp2_with fail
    go_ret2
    exact ⟨s6, by rw [HC0.out]; rfl, g3, g4, g5, fun _ => ⟨g1, g2⟩, fun e => absurd HC0.out e, g6⟩
  · have hC' : (C != 0) = true := by simp [hC]
    have HC0 : Hid (C ≠ 0) := hC
    clear KW KO hC
    go_wp2_with fail
    exact bodyPost_ret (v := .tuple #[.slice none 0 0, .int .i64 C]) (by simp [results, Try.results10, go_sem]) rfl ⟨⟨none, 0, 0⟩, rfl, Nat.le_refl _, Nat.zero_le _, fun _ => rfl, fun e => absurd e HC0.out, fun _ => rfl, H3.out.2.2⟩
end Go.Proofs.Ytdeoembjfdbbkaa
