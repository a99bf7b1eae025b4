/- The program's names: their bytes, in room that was made ahead. -/
import Derived.Test.YtfnpiknobmecbaaNxa
namespace Go.Proofs.Ytfnpiknobmecbaa
open Go.ChangeShapes Go.WideShapes Go.ChangeAt Go.RowKit
set_option linter.unusedVariables false
set_option linter.unusedSimpArgs false


theorem src_bytes {w : World} {ao : Option Addr} {m c : Nat} {news : List Int} (hr : Rd w ao news) (hl : news.length = m) : Src Try.prog 1 27 (.slice ao m c) m (news.map (Value.int .u8)) w := by
  cases ao with
  | some x => exact Src.ofSlice w Try.underlying27 x m c _ (by simp [hl]) (rd_cells hr) (by intro u hu; simp at hu; obtain ⟨z, _, rfl⟩ := hu; rfl)
  | none =>
    have hn : news = [] := by
      rcases hr with ⟨rfl, _⟩ | ⟨b, o, h, _⟩
      · rfl
      · cases h
    subst hn
    subst hl
    exact Src.ofNil w Try.underlying27 c
theorem rd_all {w : World} {ao : Option Addr} {news : List Int} (hr : Rd w ao news) : ∀ z ∈ news, 0 ≤ z ∧ z ≤ 255 := by
  intro z hz
  obtain ⟨i, hi, rfl⟩ := List.getElem_of_mem hz
  have := hr.bd i
  rw [List.getD_eq_getElem?_getD, List.getElem?_eq_getElem hi] at this
  exact this
theorem wpList_append_fitB (w : World) {ops : Array Oper} {rest : List Oper} {o : Oper} {a : Act} {Q : Exit → Act → World → Prop} (hgd : o.guard = none) (s x : Operand)
    (ho : o.op = .call { callee := .builtin .append, args := #[s, x], argTypes := #[27, 27] }) (B : Nat) (v : Value) (n : Nat) (zs : List Int) (hs : a.eval s = v) (hown : Own B w v n zs)
    (ao : Option Addr) (m c : Nat) (news : List Int) (hx : a.eval x = .slice ao m c) (hr : Rd w ao news) (hl : news.length = m) (hb : n + m ≤ 140737488355328) (hB : B ≤ w.heap.size)
    (h : ∀ v' w' zs', Hid (Own B w' v' (n + m) zs') → Hid (zs'.take (n + m) = zs.take n ++ news) → w.grownBy w' v.ownBlock → Hid (n + m ≤ zs.length → zs'.length = zs.length) → wpList Try.prog ops Q rest (a.put o.dst v') w') : wpList Try.prog ops Q (o :: rest) a w := by
  refine wpList_append_row tyB w hgd s x 27 ho B v n (zs.map (Value.int .u8)) hs hown.toV (.slice ao m c) m (news.map (Value.int .u8)) hx (src_bytes hr hl) (by omega) (by simp only [maxLen]; omega) hB ?_
  intro v' w' xs' h1 h2 h3 h4
  obtain ⟨ys, rfl, hys⟩ := bytes_of xs' (h4.out.1 QB ⟨0, rfl, by omega, by omega⟩ (qb_map hown.all) (qb_map (rd_all hr)))
  refine h v' w' ys (h1.out.toOwn hys) ?_ h3 ?_
  · have h2' := h2.out
    rw [← List.map_take, ← List.map_take, ← List.map_append] at h2'
    exact int_inj h2'
  · have := h4.out.2
    rw [List.length_map, List.length_map] at this
    exact this
theorem wpList_append_fitS (w : World) {ops : Array Oper} {rest : List Oper} {o : Oper} {a : Act} {Q : Exit → Act → World → Prop} (hgd : o.guard = none) (s x : Operand)
    (ho : o.op = .call { callee := .builtin .append, args := #[s, x], argTypes := #[27, 9] }) (B : Nat) (v : Value) (n : Nat) (zs : List Int) (hs : a.eval s = v) (hown : Own B w v n zs)
    (t : ByteArray) (hx : a.eval x = .string t) (hb : n + t.size ≤ 140737488355328) (hB : B ≤ w.heap.size)
    (h : ∀ v' w' zs', Hid (Own B w' v' (n + t.size) zs') → Hid (zs'.take (n + t.size) = zs.take n ++ nums t) → w.grownBy w' v.ownBlock → Hid (n + t.size ≤ zs.length → zs'.length = zs.length) → wpList Try.prog ops Q rest (a.put o.dst v') w') : wpList Try.prog ops Q (o :: rest) a w := by
  refine wpList_append_row tyB w hgd s x 9 ho B v n (zs.map (Value.int .u8)) hs hown.toV (.string t) t.size (byteCells t) hx (Src.ofString w Try.underlying9 t) (by omega) (by simp only [maxLen]; omega) hB ?_
  intro v' w' xs' h1 h2 h3 h4
  obtain ⟨ys, rfl, hys⟩ := bytes_of xs' (h4.out.1 QB ⟨0, rfl, by omega, by omega⟩ (qb_map hown.all) (by rw [cells_nums]; exact qb_map (nums_all t)))
  refine h v' w' ys (h1.out.toOwn hys) ?_ h3 ?_
  · have h2' := h2.out
    rw [cells_nums, ← List.map_take, ← List.map_take, ← List.map_append] at h2'
    exact int_inj h2'
  · have := h4.out.2
    rw [List.length_map, List.length_map] at this
    exact this
set_option maxRecDepth 100000 in
set_option maxHeartbeats 2000000 in
theorem pbytes_room (a : Option Addr) (n c : Nat) (ss : List ByteArray) (w : World) (h : Nm w a n ss) :
    Calls Try.prog 42 #[.slice a n c] w fun e w' => ∃ v ys, e = .returned (.tuple #[v, .int .i64 (nbytes ss).2]) ∧ Hid (Own w.heap.size w' v (nbytes ss).1.length ys ∧ ys.take (nbytes ss).1.length = (nbytes ss).1 ∧ Below w.heap.size w w' ∧ ys.length ≤ 140737488355328) := by
  have KC : Hid (Calls Try.prog 28 #[.slice a n c] w fun e w' => e = .returned (.int .i64 (nck ss)) ∧ w' = w) := pm_check c h
  have HN : Hid (Nm w a n ss) := h
  have hn := h.n63
  have HL : Hid (ss.length = n) := h.len
  by_cases hk : nck ss = 0
  · rw [hk] at KC
    have hsm := nck_small hk
    have hp : nbytes ss = (nby ss ++ [0], 0) := by unfold nbytes; rw [if_pos hk]
    rw [hp]
    obtain ⟨T, hT0⟩ : ∃ T, nsz ss = T := ⟨_, rfl⟩
    have hT255 : T ≤ 255 := by rw [← hT0]; exact hsm.1
    have HSZ : Hid (∀ k, (nby (ss.take k)).length + 1 ≤ T) := fun k => by have := nby_len (ss.take k); have := nsz_le ss k; omega
    have HWZ : Hid ((nby ss).length + 1 = T) := by show _ = _; rw [nby_len, hT0]
    have KS : Hid (Calls Try.prog 29 #[.slice a n c] w fun e w' => e = .returned (.int .i64 T) ∧ w' = w) := by rw [← hT0]; exact psize_eq a n c ss w h.rd h.len (by have := h.sz; omega)
    have HLB : Hid (∀ s ∈ ss, s.size ≤ 63) := fun s hs => by
      have := hsm.2 s hs
      unfold chk at this
      split at this
      · omega
      · cases this
    clear h hk hp hsm hT0
    go_enter Try.func42, Try.ntmps42
    go_wp2_with fail
    refine KC.out.mono ?_
    rintro e w1 ⟨rfl, rfl⟩
    go_wp2_with fail
    refine KS.out.mono ?_
    rintro e w1 ⟨rfl, rfl⟩
    go_wp2_with (at_make; refine wpList_make_blk _ rfl _ _ rfl 0 T _ _ rfl rfl rfl rfl (by omega) (by omega) ?_)
    have HW0 : Hid (∃ ys, Own w1.heap.size (w1.alloc (.cells (Array.replicate T (Value.int .u8 0)) 5)) (.slice (some ⟨w1.heap.size, 0, none⟩) 0 T) 0 ys ∧ ys.take 0 = nby (ss.take 0) ∧ ys.length = T) := by
      refine ⟨List.replicate T 0, .inr ⟨w1.heap.size, by simp, Nat.le_refl _, ⟨(heap_alloc_new _ _).trans (by simp), ?_⟩, by simp, by unfold maxLen; simp; omega⟩, by simp [nby], by simp⟩
      intro z hz
      rw [List.eq_of_mem_replicate hz]
      omega
    have HB0 : Hid (Below w1.heap.size w1 (w1.alloc (.cells (Array.replicate T (Value.int .u8 0)) 5))) := (Below.refl _ _).alloc (Nat.le_refl _) _
    generalize w1.alloc (.cells (Array.replicate T (Value.int .u8 0)) 5) = wa at *
    go_loopw [5, 18] (fun v x wr => ∃ (k m : Nat), k ≤ n ∧ m + 1 ≤ T ∧ x = .int .i64 k ∧ Hid ((nby (ss.take k)).length = m) ∧ Hid (∃ ys, Own w1.heap.size wr v m ys ∧ ys.take m = nby (ss.take k) ∧ ys.length = T) ∧ Hid (Below w1.heap.size w1 wr)) (fun _ x _ => n - (intOf x).toNat)
    case atStart => exact ⟨0, 0, Nat.zero_le _, by have := HWZ.out; omega, rfl, rfl, HW0.out, HB0⟩
    case round =>
      obtain ⟨k, m, hkn, hm, rfl, HM, HW, HB⟩ := hrel
      clear HW0 HB0
      by_cases hlt : k < n
      · have hlt' : (k : Int) < (n : Int) := by omega
        have hks : k < ss.length := by rw [HL.out]; exact hlt
        obtain ⟨b, o, rfl, hb, hc⟩ := (HN.out.below HB.out).rd.at k hks
        have HCE : Hid (∀ W, Below w1.heap.size w1 W → W.cell? ⟨b, o + k, none⟩ = some (.string ss[k])) := by
          intro W hW
          obtain ⟨b', o', e, _, h2⟩ := (HN.out.below hW).rd.at k hks
          cases e
          exact h2
        have hsz := HLB.out _ (List.getElem_mem hks)
        have HT : Hid (nby (ss.take (k + 1)) = nby (ss.take k) ++ [(ss[k].size : Int)] ++ nums ss[k] ∧ (nby (ss.take (k + 1))).length = m + 1 + ss[k].size) := by
          have e : nby (ss.take (k + 1)) = nby (ss.take k) ++ [(ss[k].size : Int)] ++ nums ss[k] := by rw [take_snocT ss k hks, nby_snoc]
          exact ⟨e, by rw [e, List.length_append, List.length_append, HM.out, nums_len]; rfl⟩
        have hz2 := HSZ.out (k + 1)
        rw [HT.out.2] at hz2
        generalize ss[k] = s at *
        obtain ⟨ys, hO, hTk, hyl⟩ := HW.out
        have hnb : Below wr.heap.size wr (wr.alloc (.cells #[.int .u8 (s.size : Int)] 5)) := (Below.refl _ _).alloc (Nat.le_refl _) _
        have HO2 : Hid (Own w1.heap.size (wr.alloc (.cells #[.int .u8 (s.size : Int)] 5)) u5 m ys ∧ ys.take m = nby (ss.take k) ∧ ys.length = T) := ⟨hO.below hnb, hTk, hyl⟩
        have HR2 : Hid (Rd (wr.alloc (.cells #[.int .u8 (s.size : Int)] 5)) (some ⟨wr.heap.size, 0, none⟩) [(s.size : Int)]) := new_rd wr _ (by omega)
        have HNB : Hid (Below wr.heap.size wr (wr.alloc (.cells #[.int .u8 (s.size : Int)] 5))) := hnb
        clear hO hTk hnb hyl
        have hmod : (s.size : Int) % 256 = (s.size : Int) := by omega
        go_wp2_with (at_builtin; first
          | (refine wpList_append_fitB _ rfl _ _ rfl w1.heap.size _ m ys rfl HO2.out.1 (some ⟨wr.heap.size, 0, none⟩) 1 1 [(s.size : Int)] rfl HR2.out rfl (by omega) (Nat.le_trans HB.out.size HNB.out.size) ?_; intro v' w' ys' hO' hT' hG' hF'; have HB2 : Hid (Below w1.heap.size w1 w') := ((HB.out.trans (HNB.out.mono HB.out.size)).grown hG' (Nat.le_trans HB.out.size HNB.out.size) HO2.out.1.lt); have hc2 : w'.cell? ⟨b, o + k, none⟩ = some (.string s) := HCE.out _ HB2.out; clear HR2 hG')
          | (refine wpList_append_fitS _ rfl _ _ rfl w1.heap.size _ (m + 1) ys' rfl hO'.out s rfl (by omega) HB2.out.size ?_; intro v2 w2 ys2 hO2 hT2 hG2 hF2))
        refine ⟨⟨k + 1, m + 1 + s.size, by omega, hz2, by go_num, HT.out.2, ⟨ys2, hO2.out, ?_, ?_⟩, ?_⟩, by simp [intOf]; omega⟩
        · rw [hT2.out, hT'.out, HO2.out.2.1, HT.out.1]
        · rw [hF2.out (by rw [hF'.out (by rw [HO2.out.2.2]; omega), HO2.out.2.2]; omega), hF'.out (by rw [HO2.out.2.2]; omega), HO2.out.2.2]
        · exact HB2.out.grown hG2 HB2.out.size hO'.out.lt
      · have hge : (n : Int) ≤ (k : Int) := by omega
        have ek : ss.take k = ss := List.take_of_length_le (by rw [HL.out]; omega)
        obtain ⟨ys, hO, hTk, hyl⟩ := HW.out
        rw [ek] at hTk
        have HM2 : Hid ((nby ss).length = m) := by have := HM.out; rw [ek] at this; exact this
        have hnb : Below wr.heap.size wr (wr.alloc (.cells #[.int .u8 0] 5)) := (Below.refl _ _).alloc (Nat.le_refl _) _
        have HO2 : Hid (Own w1.heap.size (wr.alloc (.cells #[.int .u8 0] 5)) u5 m ys ∧ ys.take m = nby ss ∧ ys.length = T) := ⟨hO.below hnb, hTk, hyl⟩
        have HR2 : Hid (Rd (wr.alloc (.cells #[.int .u8 0] 5)) (some ⟨wr.heap.size, 0, none⟩) [0]) := new_rd wr _ (by omega)
        have HNB : Hid (Below wr.heap.size wr (wr.alloc (.cells #[.int .u8 0] 5))) := hnb
        clear hO hTk hnb ek hyl
        go_wp2_with (at_builtin; refine wpList_append_fitB _ rfl _ _ rfl w1.heap.size _ m ys rfl HO2.out.1 (some ⟨wr.heap.size, 0, none⟩) 1 1 [0] rfl HR2.out rfl (by omega) (Nat.le_trans HB.out.size HNB.out.size) ?_; intro v' w' ys' hO' hT' hG' hF'; have HB2 : Hid (Below w1.heap.size w1 w') := ((HB.out.trans (HNB.out.mono HB.out.size)).grown hG' (Nat.le_trans HB.out.size HNB.out.size) HO2.out.1.lt); clear hG')
        go_ret2
        refine ⟨v', ys', rfl, ?_, ?_, HB2.out, ?_⟩
        · rw [List.length_append, HM2.out]; exact hO'.out
        · rw [List.length_append, HM2.out]; exact hT'.out.trans (by rw [HO2.out.2.1])
        · rw [hF'.out (by rw [HO2.out.2.2]; omega), HO2.out.2.2]; omega
  · have hp : nbytes ss = ([], nck ss) := by unfold nbytes; rw [if_neg hk]
    rw [hp]
    generalize nck ss = q at *
    have hq : (q != 0) = true := bne_iff_ne.2 hk
    clear h hk hp
    go_enter Try.func42, Try.ntmps42
    go_wp2_with fail
    refine KC.out.mono ?_
    rintro e w1 ⟨rfl, rfl⟩
    go_wp2
    go_ret2
    exact ⟨.slice none 0 0, [], rfl, .inl ⟨rfl, rfl, rfl⟩, rfl, Below.refl _ _, Nat.zero_le _⟩
theorem pbytes_any (a : Option Addr) (n c : Nat) (ss : List ByteArray) (w : World) (h : Nm w a n ss) : Calls Try.prog 42 #[.slice a n c] w (fun e w' => ∃ v ys, e = .returned (.tuple #[v, .int .i64 (nbytes ss).2]) ∧ Hid (Own w.heap.size w' v (nbytes ss).1.length ys ∧ ys.take (nbytes ss).1.length = (nbytes ss).1 ∧ Below w.heap.size w w')) :=
  (pbytes_room a n c ss w h).mono fun e w' ⟨v, ys, h1, h2⟩ => ⟨v, ys, h1, h2.out.1, h2.out.2.1, h2.out.2.2.1⟩
end Go.Proofs.Ytfnpiknobmecbaa
