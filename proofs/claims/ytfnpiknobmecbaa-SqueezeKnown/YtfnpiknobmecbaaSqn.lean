/- A writer's Name. -/
import Derived.Test.YtfnpiknobmecbaaSqm
import Derived.Test.YtfnpiknobmecbaaArg
namespace Go.Proofs.Ytfnpiknobmecbaa
open Go.ChangeShapes Go.WideShapes Go.ChangeAt Go.RowKit Go.Maps
set_option linter.unusedVariables false
set_option linter.unusedSimpArgs false

set_option maxRecDepth 100000 in
set_option maxHeartbeats 1000000 in
theorem pbytes_bad (a : Option Addr) (n c : Nat) (ss : List ByteArray) (w : World) (h : Arg w a n ss) (hn : n ≤ 8796093021952) (hk : ¬ nck ss = 0) :
    Calls Try.prog 42 #[.slice a n c] w fun e w' => e = .returned (.tuple #[.slice none 0 0, .int .i64 (nck ss)]) ∧ w' = w := by
  have KC := Lib.hid (pcheck_wide a n c ss w h.rd h.len (fun ho => by have := labs_nsz ho; have := h.len; omega) h.n63 h.z63)
  generalize nck ss = q at *
  have hq : (q != 0) = true := bne_iff_ne.2 hk
  clear h hk
  go_enter Try.func42, Try.ntmps42
  go_wp2_with fail
  refine KC.out.mono ?_
  rintro e w1 ⟨rfl, rfl⟩
  go_wp2
  go_ret2
  exact ⟨rfl, rfl⟩
set_option maxRecDepth 100000 in
set_option maxHeartbeats 1000000 in
theorem wbytes1 (B g : Nat) (tx : List Int) (pl : List (ByteArray × Nat)) (v : Value) (ys : List Int) (mb : Nat) (a : Option Addr) (m c : Nat) (zs : List Int) (w : World) (h : Wr1 B w g tx pl v ys mb) (hB : B ≤ w.heap.size) (ht : tx.length ≤ 65535) (hr : Rd w a zs) (hl : zs.length = m) (hc : a = none → c = 0) (hm : m ≤ 140737488355328) :
    Calls Try.prog 23 #[.pointer (some ⟨g, 0, none⟩), .slice a m c] w fun e w' => e = .returned (.int .i64 (if 65535 < tx.length + m then 3 else 0)) ∧ Hid (Wr B w' g (if 65535 < tx.length + m then tx else tx ++ zs) pl ∧ Fr B w w' ∧ ∀ j, j < w.heap.size → j ≠ g → v.ownBlock ≠ some j → w'.heap[j]? = w.heap[j]?) := by
  have hg := box_lt h.box
  have c0 : w.cell? ⟨g, 0, none⟩ = some (.pointer (some ⟨g, 0, none⟩)) := box_cell h.box 0 _ rfl
  have c1 : w.cell? ⟨g, 1, none⟩ = some v := box_cell h.box 1 _ rfl
  have f1 := box_frozen h.box 1
  have H : Hid (Wr1 B w g tx pl v ys mb) := h
  have HR : Hid (Rd w a zs) := hr
  have HL : Hid (zs.length = m) := hl
  obtain ⟨ao, hv, _⟩ := h.own.addr
  obtain ⟨n, hn⟩ : ∃ n, tx.length = n := ⟨_, rfl⟩
  have HN : Hid (tx.length = n) := hn
  rw [hn] at hv ht ⊢
  have KM := Lib.hid (made_yes g w c0 hg)
  have HO : Hid (Own B w v n ys) := by have := h.own; rw [hn] at this; exact this
  subst hv
  clear h hr hl hn
  by_cases hbig : 65535 < n + m
  · rw [if_pos hbig, if_pos hbig]
    have hbig' : 65535 - (n : Int) < (m : Int) := by omega
    go_enter Try.func23, Try.ntmps23
    go_wp2_with fail
    refine KM.out.mono ?_
    rintro e w1 ⟨rfl, rfl⟩
    go_wp2_with fail
    go_ret
    exact ⟨rfl, ⟨_, _, _, H.out⟩, Fr.refl _ _, fun _ _ _ _ => rfl⟩
  · rw [if_neg hbig, if_neg hbig]
    have hbig' : (m : Int) ≤ 65535 - (n : Int) := by omega
    go_enter Try.func23, Try.ntmps23
    go_wp2_with fail
    refine KM.out.mono ?_
    rintro e w1 ⟨rfl, rfl⟩
    go_wp2_with (at_builtin; refine wpList_append_blk _ rfl _ _ rfl B _ n ys rfl HO.out a m c zs rfl HR.out HL.out hc (by omega) hB ?_; intro v' w2 ys' hO' hT' hG'; have HST := Lib.hid (H.out.stored hG' (tx' := tx ++ zs) (v' := v') (ys' := ys') (by rw [List.length_append, HN.out, HL.out]; exact hO'.out) (by rw [List.length_append, HN.out, HL.out, hT'.out]; have := H.out.txt; rw [HN.out] at this; rw [this]) hB); have hob := H.out.old hG'; have hg2 := box_lt hob.1; have d1 : w2.cell? ⟨g, 1, none⟩ = some (.slice ao n ys.length) := box_cell hob.1 1 _ rfl; have e1 := box_frozen hob.1 1; obtain ⟨ao', rfl, _⟩ := hO'.out.addr; have HJ : Hid (∀ j, j < w1.heap.size → j ≠ g → (Value.slice ao n ys.length).ownBlock ≠ some j → (w2.setCell ⟨g, 1, none⟩ (.slice ao' (n + m) ys'.length)).heap[j]? = w1.heap[j]?) := (fun j hj hne hnb => ((grown_set w2 g 1 (.slice ao' (n + m) ys'.length)).block j (Nat.lt_of_lt_of_le hj hG'.size) (by simpa using hne)).trans (hG'.block j hj (fun e => hnb e.symm))); clear hG' hob)
    go_ret
    exact ⟨rfl, ⟨_, _, _, HST.out.1⟩, HST.out.2, HJ.out⟩
/-- What Name does. -/
def wnm (tx : List Int) (pl : List (ByteArray × Nat)) (ss : List ByteArray) (back : Bool) : Int × List Int × List (ByteArray × Nat) :=
  if nck ss = 0 then
    if 65535 < tx.length + (qshort (if back then pl else []) ss).length then (3, tx, pl)
    else (0, tx ++ qshort (if back then pl else []) ss, qkeep pl tx.length (qown (if back then pl else []) ss) ss)
  else (nck ss, tx, pl)
theorem qob_le (pl : List (ByteArray × Nat)) (ss : List ByteArray) (h : nck ss = 0) : qob pl ss ≤ 255 := by
  have h1 := (nck_small h).1
  unfold qob
  split
  · have := offs_le ss (qown pl ss); omega
  · exact h1
/-- What the last part of Name does: the bytes, what is kept. -/
def NmPost (B g : Nat) (r : Int × List Int × List (ByteArray × Nat)) (w : World) (e : Ending) (w' : World) : Prop := e = .returned (.int .i64 r.1) ∧ Hid (Wr B w' g r.2.1 r.2.2 ∧ Fr B w w')
set_option maxRecDepth 100000 in
set_option maxHeartbeats 2000000 in
theorem wname_no (B g : Nat) (tx : List Int) (pl : List (ByteArray × Nat)) (a : Option Addr) (n c : Nat) (ss : List ByteArray) (back : Bool) (w : World) (h : Wr B w g tx pl) (hN : Arg w a n ss) (hn : n ≤ 8796093021952) (hk : ¬ nck ss = 0) :
    Calls Try.prog 22 #[.pointer (some ⟨g, 0, none⟩), .slice a n c, .bool back] w (NmPost B g (nck ss, tx, pl) w) := by
  have HW : Hid (Wr B w g tx pl) := h
  obtain ⟨v, ys, mb, h⟩ := h
  have hg := box_lt h.box
  have c0 : w.cell? ⟨g, 0, none⟩ = some (.pointer (some ⟨g, 0, none⟩)) := box_cell h.box 0 _ rfl
  have KM := Lib.hid (made_yes g w c0 hg)
  have KB := Lib.hid (pbytes_bad a n c ss w hN hn hk)
  generalize nck ss = q at *
  have hq : (q != 0) = true := bne_iff_ne.2 hk
  clear h hk hN
  go_enter Try.func22, Try.ntmps22
  go_wp2_with fail
  refine KM.out.mono ?_
  rintro e w1 ⟨rfl, rfl⟩
  go_wp2_with fail
  refine KB.out.mono ?_
  rintro e w1 ⟨rfl, rfl⟩
  go_wp2
  go_ret
  exact ⟨rfl, HW.out, Fr.refl _ _⟩
set_option maxRecDepth 100000 in
set_option maxHeartbeats 4000000 in
theorem wname_yes (B g : Nat) (tx : List Int) (pl : List (ByteArray × Nat)) (a : Option Addr) (n c : Nat) (ss : List ByteArray) (back : Bool) (w : World) (h : Wr B w g tx pl) (hN : Arg w a n ss) (hk : nck ss = 0) (hB : B ≤ w.heap.size) (ht : tx.length ≤ 65535) (hP : ∀ k p, (k, p) ∈ pl → p < 16384) (hpl : pl.length ≤ 100000) :
    Calls Try.prog 22 #[.pointer (some ⟨g, 0, none⟩), .slice a n c, .bool back] w (NmPost B g (wnm tx pl ss back) w) := by
  have HW : Hid (Wr B w g tx pl) := h
  obtain ⟨v, ys, mb, h⟩ := h
  have hg := box_lt h.box
  have c0 : w.cell? ⟨g, 0, none⟩ = some (.pointer (some ⟨g, 0, none⟩)) := box_cell h.box 0 _ rfl
  have c1 : w.cell? ⟨g, 1, none⟩ = some v := box_cell h.box 1 _ rfl
  obtain ⟨aot, hvt, _⟩ := h.own.addr
  obtain ⟨T, hT⟩ : ∃ T, tx.length = T := ⟨_, rfl⟩
  obtain ⟨TC, hTC⟩ : ∃ TC, ys.length = TC := ⟨_, rfl⟩
  rw [hT, hTC] at hvt
  rw [hT] at ht
  subst hvt
  have HT : Hid (tx.length = T) := hT
  have HW1 : Hid (Wr1 B w g tx pl (.slice aot T TC) ys mb) := h
  have KM := Lib.hid (made_yes g w c0 hg)
  have hnb : nbytes ss = (nby ss ++ [0], 0) := by unfold nbytes; rw [if_pos hk]
  have KB := Lib.hid (pbytes_room a n c ss w (hN.nm hk))
  rw [hnb] at KB
  have hln : (nby ss ++ [0]).length = nsz ss := by have := nby_len ss; simp; omega
  simp only [hln] at KB
  obtain ⟨N, hNN⟩ : ∃ N, nsz ss = N := ⟨_, rfl⟩
  rw [hNN] at KB hln
  have hN255 : N ≤ 255 := by rw [← hNN]; exact (nck_small hk).1
  have HNN : Hid (nsz ss = N ∧ (nby ss ++ [0]).length = N) := ⟨hNN, hln⟩
  have HK : Hid (nck ss = 0) := hk
  have HP : Hid (∀ k p, (k, p) ∈ pl → p < 16384) := hP
  clear h hN hk hP hT hnb hln hNN hTC
  cases back with
  | true =>
    have HSP : Hid (wnm tx pl ss true = if 65535 < T + (qshort pl ss).length then (3, tx, pl) else (0, tx ++ qshort pl ss, qkeep pl T (qown pl ss) ss)) := (show _ = _ by unfold wnm; rw [if_pos HK.out, HT.out]; rfl)
    have HOW : Hid (qob pl ss ≤ 255 ∧ ∀ k, k < ss.length → (k < qown pl ss ↔ offs ss k < qob pl ss)) := ⟨qob_le pl ss HK.out, fun k hk => own_iff pl ss k hk⟩
    go_enter Try.func22, Try.ntmps22
    go_wp2_with fail
    refine KM.out.mono ?_
    rintro e w1 ⟨rfl, rfl⟩
    go_wp2_with fail
    refine KB.out.mono ?_
    rintro e w2 ⟨vb, yb, rfl, H2⟩
    obtain ⟨ab, rfl, _⟩ := H2.out.1.addr
    have HRb : Hid (Rd w2 ab (nby ss ++ [0]) ∧ N ≤ yb.length ∧ yb.length ≤ 140737488355328) := by
      obtain ⟨ab', e, hA⟩ := H2.out.1.addr
      cases e
      have := hA.rdTake N
      rw [H2.out.2.1] at this
      exact ⟨this, hA.le.1, H2.out.2.2.2⟩
    have hg2 : g < w2.heap.size := Nat.lt_of_lt_of_le hg H2.out.2.2.1.size
    have d1 : w2.cell? ⟨g, 1, none⟩ = some (.slice aot T TC) := cell_below H2.out.2.2.1 hg c1
    have KS := Lib.hid (shorten_any B g tx pl ab N yb.length ss w2 (HW.out.below H2.out.2.2.1) HK.out HP.out HRb.out.1 HNN.out.2 HRb.out.2.1 (by have := HRb.out.2.2; omega))
    clear KB
    go_wp2_with fail
    refine KS.out.mono ?_
    rintro e w3 ⟨a3, ns, cs, rfl, H3⟩
    have HV3 : Hid (Wr1 B w3 g tx pl (.slice aot T TC) ys mb ∧ Fr B w1 w3 ∧ B ≤ w3.heap.size ∧ Own w1.heap.size w3 (.slice ab N yb.length) N yb) :=
      ⟨(HW1.out.below H2.out.2.2.1).below H3.out.2.2.2, (Fr.of H2.out.2.2.1 hB).trans (Fr.of H3.out.2.2.2 (Nat.le_trans hB H2.out.2.2.1.size)), Nat.le_trans hB (Nat.le_trans H2.out.2.2.1.size H3.out.2.2.2.size), H2.out.1.below H3.out.2.2.2⟩
    have HRs : Hid (Rd w3 a3 (qshort pl ss) ∧ (qshort pl ss).length = ns ∧ (a3 = none → cs = 0)) := ⟨H3.out.1, H3.out.2.1, H3.out.2.2.1⟩
    have hns : ns ≤ 255 := by rw [← H3.out.2.1]; have := (qshort_len pl ss (fun s hs => (chk_ok (labs_of HK.out s hs)).1)).2; have := HNN.out.1; omega
    obtain ⟨ob, hob⟩ : ∃ ob, qob pl ss = ob := ⟨_, rfl⟩
    rw [hob] at HOW ⊢
    clear hob
    have KW := Lib.hid (wbytes1 B g tx pl (.slice aot T TC) ys mb a3 ns cs (qshort pl ss) w3 HV3.out.1 HV3.out.2.2.1 (by rw [HT.out]; exact ht) HRs.out.1 HRs.out.2.1 HRs.out.2.2 (by omega))
    simp only [HT.out] at KW
    rw [HRs.out.2.1] at HSP
    by_cases hbig : 65535 < T + ns
    · rw [if_pos hbig, if_pos hbig] at KW
      rw [if_pos hbig] at HSP
      go_wp2_with fail
      refine KW.out.mono ?_
      rintro e w4 ⟨rfl, H4⟩
      go_wp2
      go_ret
      rw [HSP.out]
      exact ⟨rfl, H4.out.1, HV3.out.2.1.trans H4.out.2.1⟩
    · rw [if_neg hbig, if_neg hbig] at KW
      rw [if_neg hbig] at HSP
      go_wp2_with fail
      refine KW.out.mono ?_
      rintro e w4 ⟨rfl, H4⟩
      have HO4 : Hid (Rd w4 ab (nby ss ++ [0])) := by
        have := HV3.out.2.2.2.keepAt (w' := w4) (fun j hj hl => H4.out.2.2 j hl (fun e => by subst e; have := (HV3.out.2.2.2.blk5 _ hj).1; omega) (fun e => by have h1 := (HV3.out.2.2.2.blk5 _ hj).1; obtain ⟨_, cs', h2⟩ := HW1.out.own.blk5 _ e; have := box_lt h2; omega))
        obtain ⟨ab', e, hA⟩ := this.addr
        cases e
        have := hA.rdTake N
        rw [H2.out.2.1] at this
        exact this
      have hcv : (convert 27 9 (.slice ab N yb.length)).run Try.prog w4 = .ok (.string (qkey ss)) w4 := conv_rd _ _ _ _ _ HO4.out HNN.out.2
      have HB4 : Hid (B ≤ w4.heap.size) := (Nat.le_trans HV3.out.2.2.1 H4.out.2.1.below.size : B ≤ w4.heap.size)
      have KK := Lib.hid (keep_any B g (tx ++ qshort pl ss) pl ss ob T (qown pl ss) w4 H4.out.1 HK.out (by omega) HOW.out.1 (qown_le pl ss) HOW.out.2 hpl HB4.out)
      generalize qkey ss = s at *
      go_wp2_with fail
      refine KK.out.mono ?_
      rintro e w5 ⟨rfl, H5⟩
      go_wp2
      go_ret
      rw [HSP.out]
      exact ⟨rfl, H5.out.1, (HV3.out.2.1.trans H4.out.2.1).trans H5.out.2⟩
  | false =>
    have HSP : Hid (wnm tx pl ss false = if 65535 < T + (qshort [] ss).length then (3, tx, pl) else (0, tx ++ qshort [] ss, qkeep pl T (qown [] ss) ss)) := (show _ = _ by unfold wnm; rw [if_pos HK.out, HT.out]; rfl)
    have HOW : Hid (N ≤ 255 ∧ ∀ k, k < ss.length → (k < qown [] ss ↔ offs ss k < N)) := ⟨hN255, fun k hk => by rw [qown_nil, ← HNN.out.1]; have := offs_le ss k; omega⟩
    go_enter Try.func22, Try.ntmps22
    go_wp2_with fail
    refine KM.out.mono ?_
    rintro e w1 ⟨rfl, rfl⟩
    go_wp2_with fail
    refine KB.out.mono ?_
    rintro e w2 ⟨vb, yb, rfl, H2⟩
    obtain ⟨ab, rfl, hAb⟩ := H2.out.1.addr
    have hnil := hAb.nil
    have hg2 : g < w2.heap.size := Nat.lt_of_lt_of_le hg H2.out.2.2.1.size
    have d1 : w2.cell? ⟨g, 1, none⟩ = some (.slice aot T TC) := cell_below H2.out.2.2.1 hg c1
    have HRs : Hid (Rd w2 ab (qshort [] ss) ∧ (qshort [] ss).length = N ∧ (ab = none → yb.length = 0)) := by
      have := hAb.rdTake N
      rw [H2.out.2.1] at this
      rw [qshort_nil]
      exact ⟨this, HNN.out.2, hnil⟩
    have HV3 : Hid (Wr1 B w2 g tx pl (.slice aot T TC) ys mb ∧ Fr B w1 w2 ∧ B ≤ w2.heap.size ∧ Own w1.heap.size w2 (.slice ab N yb.length) N yb) :=
      ⟨HW1.out.below H2.out.2.2.1, Fr.of H2.out.2.2.1 hB, Nat.le_trans hB H2.out.2.2.1.size, H2.out.1⟩
    clear KB hnil hAb
    have KW := Lib.hid (wbytes1 B g tx pl (.slice aot T TC) ys mb ab N yb.length (qshort [] ss) w2 HV3.out.1 HV3.out.2.2.1 (by rw [HT.out]; exact ht) HRs.out.1 HRs.out.2.1 HRs.out.2.2 (by omega))
    simp only [HT.out] at KW
    rw [HRs.out.2.1] at HSP
    by_cases hbig : 65535 < T + N
    · rw [if_pos hbig, if_pos hbig] at KW
      rw [if_pos hbig] at HSP
      go_wp2_with fail
      refine KW.out.mono ?_
      rintro e w4 ⟨rfl, H4⟩
      go_wp2
      go_ret
      rw [HSP.out]
      exact ⟨rfl, H4.out.1, HV3.out.2.1.trans H4.out.2.1⟩
    · rw [if_neg hbig, if_neg hbig] at KW
      rw [if_neg hbig] at HSP
      go_wp2_with fail
      refine KW.out.mono ?_
      rintro e w4 ⟨rfl, H4⟩
      have HO4 : Hid (Rd w4 ab (nby ss ++ [0])) := by
        have := HV3.out.2.2.2.keepAt (w' := w4) (fun j hj hl => H4.out.2.2 j hl (fun e => by subst e; have := (HV3.out.2.2.2.blk5 _ hj).1; omega) (fun e => by have h1 := (HV3.out.2.2.2.blk5 _ hj).1; obtain ⟨_, cs', h2⟩ := HW1.out.own.blk5 _ e; have := box_lt h2; omega))
        obtain ⟨ab', e, hA⟩ := this.addr
        cases e
        have := hA.rdTake N
        rw [H2.out.2.1] at this
        exact this
      have hcv : (convert 27 9 (.slice ab N yb.length)).run Try.prog w4 = .ok (.string (qkey ss)) w4 := conv_rd _ _ _ _ _ HO4.out HNN.out.2
      have HB4 : Hid (B ≤ w4.heap.size) := (Nat.le_trans HV3.out.2.2.1 H4.out.2.1.below.size : B ≤ w4.heap.size)
      have KK := Lib.hid (keep_any B g (tx ++ qshort [] ss) pl ss N T (qown [] ss) w4 H4.out.1 HK.out (by omega) HOW.out.1 (qown_le [] ss) HOW.out.2 hpl HB4.out)
      generalize qkey ss = s at *
      go_wp2_with fail
      refine KK.out.mono ?_
      rintro e w5 ⟨rfl, H5⟩
      go_wp2
      go_ret
      rw [HSP.out]
      exact ⟨rfl, H5.out.1, (HV3.out.2.1.trans H4.out.2.1).trans H5.out.2⟩
theorem wname_any (B g : Nat) (tx : List Int) (pl : List (ByteArray × Nat)) (a : Option Addr) (n c : Nat) (ss : List ByteArray) (back : Bool) (w : World) (h : Wr B w g tx pl) (hN : Arg w a n ss) (hn : n ≤ 8796093021952) (hB : B ≤ w.heap.size) (ht : tx.length ≤ 65535) (hP : ∀ k p, (k, p) ∈ pl → p < 16384) (hpl : pl.length ≤ 100000) :
    Calls Try.prog 22 #[.pointer (some ⟨g, 0, none⟩), .slice a n c, .bool back] w (NmPost B g (wnm tx pl ss back) w) := by
  by_cases hk : nck ss = 0
  · exact wname_yes B g tx pl a n c ss back w h hN hk hB ht hP hpl
  · have e : wnm tx pl ss back = (nck ss, tx, pl) := by unfold wnm; rw [if_neg hk]
    rw [e]
    exact wname_no B g tx pl a n c ss back w h hN hn hk
end Go.Proofs.Ytfnpiknobmecbaa
