/- Texts laid together: Jd Je Jg Jf. -/
import Derived.Test.YtdeoembjfdbbkaaPrj
import Derived.Deep.CutBlock
import Derived.Deep.RegionLaw
/- The document's own answer: what data bytes may be: texts. -/
namespace Go.Proofs.Ytdeoembjfdbbkaa
open Go.ChangeShapes Go.WideShapes Go.ChangeAt Go.RowKit
set_option linter.unusedVariables false
set_option linter.unusedSimpArgs false

/-- A text appended, as a step of a region. -/
theorem st_t1 {w : World} {ops : Array Oper} {o : Oper} {a : Act} {K : Act → World → Prop} {Q : Exit → Act → World → Prop} {E : Prop} (hgd : o.guard = none) (s x : Operand)
    (ho : o.op = .call { callee := .builtin .append, args := #[s, x], argTypes := #[26, 26] }) (B : Nat) (s2 : Sl) (ts : List ByteArray) (hs : a.eval s = .slice s2.a s2.n s2.c) (hown : Own1 B w s2 ts)
    (ao : Addr) (hx : a.eval x = .slice (some ao) 1 1) (u : ByteArray) (hr : RdT w (some ao) [u]) (hu : u.size ≤ 1000000000000) (hn : ts.length ≤ 1000000) (hB : B ≤ w.heap.size)
    (h : ∀ (t' : Sl) w', Hid (Own1 B w' t' (ts ++ [u])) → Hid (w.grownBy w' (Value.ownBlock (.slice s2.a s2.n s2.c)) ∧ ∀ j, (Value.ownBlock (.slice s2.a s2.n s2.c)) = some j → B ≤ j) → K (a.put o.dst (.slice t'.a t'.n t'.c)) w') :
    if Region.wanted o (yielded ops a.tmps) = true then Oper.wp Try.prog o a w K Q else E := by
  have hw : Region.wanted o (yielded ops a.tmps) = true := by simp [Region.wanted, hgd]
  rw [if_pos hw]
  obtain ⟨ys, h1, h2⟩ := hown
  obtain ⟨v', w', xs', hrun, q2, q3, q4, q5⟩ := run_append_row tyT w B 26 o.type _ ts.length (tv ys) h1.1 (.slice (some ao) 1 1) 1 (tv [u]) (src_of Try.underlying26 hr rfl (tv_one [u])) (by omega) (by simp only [maxLen]; omega) hB
  unfold Oper.wp execOp
  simp only [ho, resolve, invoke, builtin, Sem.run_bind, Sem.run_pure, Result.andThen_ok, List.map_toArray, List.map_cons, List.map_nil, hs, hx, hrun]
  obtain ⟨zs, rfl, hys⟩ := tv_of (M := 1000000000000) xs' (q5.1 (QS 1000000000000) ⟨⟨#[]⟩, rfl, Nat.zero_le _⟩ (qs_tv h1.2) (qs_tv (by intro z hz; simp at hz; subst hz; exact hu)))
  obtain ⟨ao', rfl, _⟩ := OwnV.shape q2
  refine h ⟨ao', ts.length + 1, (tv zs).length⟩ w' ⟨zs, ⟨by simpa using q2, hys⟩, ?_⟩ ⟨q4, h1.1.lt⟩
  have q3' := q3
  rw [tv_take, tv_take, ← tv_append] at q3'
  have := tv_inj q3'
  rw [h2] at this
  simpa using this
theorem ptxF_more (zs : List Int) (len k : Nat) (st : Option Nat) (h : 0 < lft len st) : ptxF zs len (k + 1) st = (lb (tk zs (mv len st 1) (val (tk zs st 1))) :: (ptxF zs len k (mv len (mv len st 1) (val (tk zs st 1)))).1, (ptxF zs len k (mv len (mv len st 1) (val (tk zs st 1)))).2) := by
  conv => lhs; unfold ptxF
  rw [if_pos h]
set_option maxRecDepth 100000 in
set_option maxHeartbeats 8000000 in
theorem guess_txt (t : Nat) (ht : t ≠ 6) (a : Option Addr) (len cap : Nat) (zs : List Int) (w : World) (hr : Rd w a zs) (hl : zs.length = len) (hc : len ≤ cap ∧ cap ≤ 9223372036854775807) (hb : len ≤ 100000) (hnil : a = none → cap = 0) :
    Calls Try.prog 53 #[.int .u16 t, .agg #[.int .i64 0, .int .i64 0, .int .i64 (-1), .int .i64 0, .int .i64 0], .slice a len cap] w (GQ (pread ⟨0, 0, 0, 0, -1, 0, 0, 0⟩ zs len) len w) := by
  have q6 : ((t : Int) == 6) = false := by simp; omega
  have q6n : ((t : Int) != 6) = true := by simp; omega
  have HN : Hid (GB w.heap.size (w.heap.size + 1) (w.heap.size + 1 + 1 + 1) (w.heap.size + 1 + 1) ⟨0, 0, -1, 0, 0⟩ w ((((w.alloc (.cells #[.int .i64 0, .int .i64 0, .int .i64 (-1), .int .i64 0, .int .i64 0] 67)).alloc (.cells #[.slice none 0 0, .slice none 0 0, .slice none 0 0, .slice none 0 0] 29)).alloc (.cells #[.slice none 0 0, .slice none 0 0, .slice none 0 0, .slice none 0 0] 29)).alloc (.cells #[.slice a len cap, .int .i64 0, .bool false] 99)) ∧ GRd (w.heap.size + 1 + 1 + 1) (w.heap.size + 1 + 1) a len cap zs (some 0) nilDA ((((w.alloc (.cells #[.int .i64 0, .int .i64 0, .int .i64 (-1), .int .i64 0, .int .i64 0] 67)).alloc (.cells #[.slice none 0 0, .slice none 0 0, .slice none 0 0, .slice none 0 0] 29)).alloc (.cells #[.slice none 0 0, .slice none 0 0, .slice none 0 0, .slice none 0 0] 29)).alloc (.cells #[.slice a len cap, .int .i64 0, .bool false] 99)) ((((w.alloc (.cells #[.int .i64 0, .int .i64 0, .int .i64 (-1), .int .i64 0, .int .i64 0] 67)).alloc (.cells #[.slice none 0 0, .slice none 0 0, .slice none 0 0, .slice none 0 0] 29)).alloc (.cells #[.slice none 0 0, .slice none 0 0, .slice none 0 0, .slice none 0 0] 29)).alloc (.cells #[.slice a len cap, .int .i64 0, .bool false] 99))) := guess_new ⟨0, 0, -1, 0, 0⟩ a len cap zs w hr hl hc (by omega) hnil
  have HL : Hid (zs.length = len) := hl
  have HBY : Hid (∀ z ∈ zs, 0 ≤ z ∧ z ≤ 255) := hr.2
  have HPR : Hid (pread ⟨0, 0, 0, 0, -1, 0, 0, 0⟩ zs len = (⟨[], [], (ptxF zs len (len + 1) (some 0)).1, []⟩, (ptxF zs len (len + 1) (some 0)).2)) := pread_txt zs len
  generalize pread ⟨0, 0, 0, 0, -1, 0, 0, 0⟩ zs len = PR at *
  clear hr hl hc hnil ht
  go_enter Try.func53, Try.ntmps53
  go_upto_region 3 with fail
  generalize ((((w.alloc (.cells #[.int .i64 0, .int .i64 0, .int .i64 (-1), .int .i64 0, .int .i64 0] 67)).alloc (.cells #[.slice none 0 0, .slice none 0 0, .slice none 0 0, .slice none 0 0] 29)).alloc (.cells #[.slice none 0 0, .slice none 0 0, .slice none 0 0, .slice none 0 0] 29)).alloc (.cells #[.slice a len cap, .int .i64 0, .bool false] 99)) = Wb at *
  obtain ⟨g, hg⟩ : ∃ g, w.heap.size + 1 + 1 + 1 = g := ⟨_, rfl⟩
  obtain ⟨D, hD⟩ : ∃ D, w.heap.size + 1 + 1 = D := ⟨_, rfl⟩
  obtain ⟨R, hR⟩ : ∃ R, w.heap.size + 1 = R := ⟨_, rfl⟩
  obtain ⟨S, hS⟩ : ∃ S, w.heap.size = S := ⟨_, rfl⟩
  rw [hg, hD, hR] at HN
  rw [hg, hD, hR]
  have HS : Hid (w.heap.size = S) := hS
  rw [hS] at HN ⊢
  clear hg hD hR hS
  have HF : Hid (∀ V, Kp g D Wb V → V.cell? ⟨S, 0, none⟩ = some (.int .i64 0) ∧ V.cell? ⟨S, 1, none⟩ = some (.int .i64 0) ∧ V.cell? ⟨S, 2, none⟩ = some (.int .i64 (-1)) ∧ V.cell? ⟨S, 3, none⟩ = some (.int .i64 0) ∧ V.cell? ⟨S, 4, none⟩ = some (.int .i64 0) ∧ S < V.heap.size) := fun V hV => HN.out.1.sbox hV
  have HLT : Hid (g < Wb.heap.size ∧ D < Wb.heap.size) := HN.out.2.lt
  have hSD : ¬ S = D := HN.out.1.ne.2.1
  have hSg : ¬ S = g := HN.out.1.ne.1
  have hgD : ¬ g = D := HN.out.2.ne
  have hRg : ¬ R = g := HN.out.1.ne.2.2.1
  have hRD : ¬ R = D := HN.out.1.ne.2.2.2.1
  have hDg : ¬ D = g := by omega
  have hDR : ¬ D = R := by omega
  have hgR : ¬ g = R := by omega
  have hSR : ¬ S = R := HN.out.1.ne.2.2.2.2
  have hRS : ¬ R = S := by omega
  have HG0 : Hid (GS g D a len cap zs Wb Wb (some 0) nilDA nilD) := GS.new HN.out.2
  have t0 := (HF.out Wb (Kp.refl _ _ _)).1
  have t1 := (HF.out Wb (Kp.refl _ _ _)).2.1
  have t2 := (HF.out Wb (Kp.refl _ _ _)).2.2.1
  have t3 := (HF.out Wb (Kp.refl _ _ _)).2.2.2.1
  have t4 := (HF.out Wb (Kp.refl _ _ _)).2.2.2.2.1
  have tS := (HF.out Wb (Kp.refl _ _ _)).2.2.2.2.2
  go_wp2_with fail
  go_loopw [11] (fun i wr => wr = Wb ∧ i = .int .i64 0) (fun _ _ => 0)
  case atStart => exact ⟨rfl, rfl⟩
  case round =>
    obtain ⟨hwr, rfl⟩ := hrel
    subst hwr
    go_wp2_with fail
    clear t0 t1 t2 t3 t4 tS
    obtain ⟨W1, hz⟩ : ∃ z, z = wr := ⟨_, rfl⟩
    subst hz
    go_loopw [] (fun wr => ∃ (s3 : Sl) (st : Option Nat) (ts : List ByteArray) (k : Nat), Hid (GRd g D a len cap zs st ⟨⟨none, 0, 0⟩, ⟨none, 0, 0⟩, s3, ⟨none, 0, 0⟩⟩ W1 wr ∧ Own1 W1.heap.size wr s3 ts ∧ PR = (⟨[], [], ts ++ (ptxF zs len k st).1, []⟩, (ptxF zs len k st).2) ∧ (lft len st).toNat < k ∧ ts.length + (lft len st).toNat ≤ len ∧ ∀ y ∈ ts, y.size ≤ len)) (fun wr => match wr.cell? ⟨g, 1, none⟩, wr.cell? ⟨g, 2, none⟩ with | some (.int _ i), some (.bool false) => len - i.toNat | _, _ => 0)
    case atStart => exact ⟨⟨none, 0, 0⟩, some 0, [], len + 1, HG0.out.rd, nil_own1 _ _, HPR.out, by simp [lft], by simp [lft], by simp⟩
    case round =>
      obtain ⟨s3, st, ts, k, HG⟩ := hrel
      have HKP : Hid (Kp g D W1 wr) := HG.out.1.k
      have t0 := (HF.out wr HKP.out).1
      have t1 := (HF.out wr HKP.out).2.1
      have t2 := (HF.out wr HKP.out).2.2.1
      have t3 := (HF.out wr HKP.out).2.2.2.1
      have t4 := (HF.out wr HKP.out).2.2.2.2.1
      have tS := (HF.out wr HKP.out).2.2.2.2.2
      by_cases hmore : 0 < lft len st
      · obtain ⟨p, rfl⟩ : ∃ p, st = some p := by
          cases st with
          | none => simp [lft] at hmore
          | some p => exact ⟨p, rfl⟩
        have hpl : p < len := by simp only [lft] at hmore; omega
        have m1 : wr.cell? ⟨g, 1, none⟩ = some (.int .i64 (p : Int)) := HG.out.1.m.1.c1
        have m2 : wr.cell? ⟨g, 2, none⟩ = some (.bool false) := HG.out.1.m.1.c2
        have hpl' : (p : Int) < (len : Int) := by omega
        have hgl := HG.out.1.m.1.lt
        obtain ⟨k', rfl⟩ : ∃ k', k = k' + 1 := ⟨k - 1, by have := HG.out.2.2.2.1; omega⟩
        have hvz := pnu_bd zs HBY.out (some p) 1 (by omega)
        have HST : Hid (ptxF zs len (k' + 1) (some p) = (lb (tk zs (mv len (some p) 1) ((pnu zs (some p) 1 : Nat) : Int)) :: (ptxF zs len k' (mv len (mv len (some p) 1) ((pnu zs (some p) 1 : Nat) : Int))).1, (ptxF zs len k' (mv len (mv len (some p) 1) ((pnu zs (some p) 1 : Nat) : Int))).2)) := by
          show _ = _
          have e : (((1 : Nat) : Int)) = 1 := rfl
          rw [ptxF_more zs len k' (some p) hmore, hvz.2, e]
        have HLF := lft_one len (some p) HG.out.1.m.le hmore
        have HLM := lft_mv len (mv len (some p) 1) ((pnu zs (some p) 1 : Nat) : Int) HLF.2
        have HLZ : Hid ((lft len (mv len (mv len (some p) 1) ((pnu zs (some p) 1 : Nat) : Int))).toNat + 1 ≤ (lft len (some p)).toNat) := (show _ ≤ _ by have := HLF.1; omega)
        have HSZ : Hid ((tk zs (mv len (some p) 1) ((pnu zs (some p) 1 : Nat) : Int)).length ≤ len) := tk_size zs len HL.out _ _
        have K1 : Hid (∀ V, GRd g D a len cap zs (some p) ⟨⟨none, 0, 0⟩, ⟨none, 0, 0⟩, s3, ⟨none, 0, 0⟩⟩ W1 V → Calls Try.prog 78 #[.pointer (some ⟨g, 0, none⟩), .int .i64 1] V fun e w' => e = .returned (.int .u64 ((pnu zs (some p) 1 : Nat) : Int)) ∧ Hid (GRd g D a len cap zs (mv len (some p) 1) ⟨⟨none, 0, 0⟩, ⟨none, 0, 0⟩, s3, ⟨none, 0, 0⟩⟩ W1 w' ∧ V.grownBy w' (some g))) := fun V hV => gnum g D a len cap zs (some p) ⟨⟨none, 0, 0⟩, ⟨none, 0, 0⟩, s3, ⟨none, 0, 0⟩⟩ W1 V 1 (by omega) (by omega) hV
        have K2 : Hid (∀ V, GRd g D a len cap zs (mv len (some p) 1) ⟨⟨none, 0, 0⟩, ⟨none, 0, 0⟩, s3, ⟨none, 0, 0⟩⟩ W1 V → Calls Try.prog 79 #[.pointer (some ⟨g, 0, none⟩), .int .i64 ((pnu zs (some p) 1 : Nat) : Int)] V fun e w' => ∃ s : Sl, e = .returned (.slice s.a s.n s.c) ∧ Hid (BRd w' s (tk zs (mv len (some p) 1) ((pnu zs (some p) 1 : Nat) : Int)) ∧ GRd g D a len cap zs (mv len (mv len (some p) 1) ((pnu zs (some p) 1 : Nat) : Int)) ⟨⟨none, 0, 0⟩, ⟨none, 0, 0⟩, s3, ⟨none, 0, 0⟩⟩ W1 w' ∧ V.grownBy w' (some g))) := fun V hV => gtake g D a len cap zs _ ⟨⟨none, 0, 0⟩, ⟨none, 0, 0⟩, s3, ⟨none, 0, 0⟩⟩ W1 V _ hV
        have hw64 := i64w (pnu zs (some p) 1) hvz.1
        have HMS : Hid (∀ V X', GRd g D a len cap zs (mv len (mv len (some p) 1) ((pnu zs (some p) 1 : Nat) : Int)) X' W1 V → (match V.cell? ⟨g, 1, none⟩, V.cell? ⟨g, 2, none⟩ with | some (.int _ i), some (.bool false) => len - i.toNat | _, _ => 0) < len - p) := by
          intro V X' hV
          have h1 := HLZ.out
          have h2 : (lft len (some p)).toNat = len - p := by simp only [lft]; omega
          generalize mv len (mv len (some p) 1) ((pnu zs (some p) 1 : Nat) : Int) = st9 at *
          cases st9 with
          | none =>
            have hm : MBlk V g (.slice none 0 0) 0 true := hV.m
            rw [hm.c1, hm.c2]
            simp only
            omega
          | some r =>
            rw [hV.m.1.c1, hV.m.1.c2]
            simp only [lft] at h1 ⊢
            have := hV.m.2
            omega
        have HG2 : Hid (ts.length ≤ 1000000) := (show _ ≤ _ by have := HG.out.2.2.2.2.1; omega)
        clear hvz HLF HLM
        generalize htk : tk zs (mv len (some p) 1) ((pnu zs (some p) 1 : Nat) : Int) = tz at *
        generalize hst2 : mv len (mv len (some p) 1) ((pnu zs (some p) 1 : Nat) : Int) = st2 at *
        generalize hst1 : mv len (some p) 1 = st1 at *
        generalize hu : pnu zs (some p) 1 = u at *
        clear htk hst2 hst1 hu
        have d2 : wr.cell? ⟨D, 2, none⟩ = some (.slice s3.a s3.n s3.c) := HG.out.1.d.box.2.2.1
        have hDl := HG.out.1.d.lt
        go_wp2_with fail
        go_region_law (first
          | (refine st_t1 rfl _ _ rfl W1.heap.size s3 ts rfl (H6.out.2.2.stays (new_below _ _)) ⟨W6.heap.size, 0, none⟩ rfl (lb tz) (one_rdT _ _) (by rw [lb_size]; have := HSZ.out; omega) HG2.out (Nat.le_trans H6.out.2.1.k.size (by simp)) ?_; intro t' W7 H7 HG7; have H8 : Hid (GRd g D a len cap zs st2 ⟨⟨none, 0, 0⟩, ⟨none, 0, 0⟩, s3, ⟨none, 0, 0⟩⟩ W1 W7) := (H6.out.2.1.go (new_below _ _)).own HG7.out.1 HG7.out.2; have f1 : W7.cell? ⟨D, 2, none⟩ = some (.slice s3.a s3.n s3.c) := H8.out.d.box.2.2.1; have hf := H8.out.d.fz 2; have hD7 := H8.out.d.lt)
          | (go_simp; go_at_call 79; refine (K2.out _ HG5.out.1).mono ?_; rintro e W6 ⟨sz, rfl, HH6⟩; have H6 : Hid (BRd W6 sz tz ∧ GRd g D a len cap zs st2 ⟨⟨none, 0, 0⟩, ⟨none, 0, 0⟩, s3, ⟨none, 0, 0⟩⟩ W1 W6 ∧ Own1 W1.heap.size W6 s3 ts) := ⟨HH6.out.1, HH6.out.2.1, HG5.out.2.keep (fun j h1 h2 _ => HH6.out.2.2.block j h2 (fun e => by have := HG.out.1.lt; have := Option.some.inj e; omega))⟩; have hcv : (convert 27 9 (.slice sz.a sz.n sz.c)).run Try.prog W6 = .ok (.string (lb tz)) W6 := conv_rd sz.a sz.n sz.c tz W6 H6.out.1.rd H6.out.1.len; have g1 : W6.cell? ⟨D, 2, none⟩ = some (.slice s3.a s3.n s3.c) := H6.out.2.1.d.box.2.2.1; have gD := H6.out.2.1.d.lt)
          | (go_simp; go_at_call 78; refine (K1.out _ (HG.out.1.go (Below.refl _ _).drew)).mono ?_; rintro e W5 ⟨rfl, H5⟩; have HG5 : Hid (GRd g D a len cap zs st1 ⟨⟨none, 0, 0⟩, ⟨none, 0, 0⟩, s3, ⟨none, 0, 0⟩⟩ W1 W5 ∧ Own1 W1.heap.size W5 s3 ts) := ⟨H5.out.1, (HG.out.2.1.stays (Below.refl _ _).drew).keep (fun j h1 h2 _ => H5.out.2.block j h2 (fun e => by have := HG.out.1.lt; have := Option.some.inj e; omega))⟩; have e1 : W5.cell? ⟨D, 2, none⟩ = some (.slice s3.a s3.n s3.c) := HG5.out.1.d.box.2.2.1; have eD := HG5.out.1.d.lt))
        all_goals
          have H9 : Hid (GRd g D a len cap zs st2 ⟨⟨none, 0, 0⟩, ⟨none, 0, 0⟩, t', ⟨none, 0, 0⟩⟩ W1 (W7.setCell ⟨D, 2, none⟩ (.slice t'.a t'.n t'.c)) ∧ Own1 W1.heap.size (W7.setCell ⟨D, 2, none⟩ (.slice t'.a t'.n t'.c)) t' (ts ++ [lb tz])) := ⟨H8.out.set 2 _ (H8.out.d.set2 t'), H7.out.keep (fun j h1 h2 _ => Below.heap_setCell _ _ _ j (by have := H8.out.lt; show j ≠ D; omega))⟩
          have HPN : Hid (PR = (⟨[], [], (ts ++ [lb tz]) ++ (ptxF zs len k' st2).1, []⟩, (ptxF zs len k' st2).2)) := by
            show PR = _
            rw [HG.out.2.2.1, HST.out]
            simp
          have HBN : Hid ((lft len st2).toNat < k' ∧ (ts ++ [lb tz]).length + (lft len st2).toNat ≤ len ∧ ∀ y ∈ ts ++ [lb tz], y.size ≤ len) := by
            have h1 := HG.out.2.2.2
            have h2 := HLZ.out
            refine ⟨by omega, by rw [List.length_append, List.length_singleton]; omega, ?_⟩
            intro y hy
            simp only [List.mem_append, List.mem_singleton] at hy
            rcases hy with hy | rfl
            · exact h1.2.2 y hy
            · rw [lb_size]; exact HSZ.out
          clear H8 H7 HG7 H6 H5 HG5 HH6 HG K1 K2
          generalize (W7.setCell ⟨D, 2, none⟩ (.slice t'.a t'.n t'.c)) = W9 at *
          go_wp2_with fail
          refine ⟨⟨t', st2, ts ++ [lb tz], k', H9.out.1, H9.out.2, HPN.out, HBN.out.1, HBN.out.2.1, HBN.out.2.2⟩, ?_⟩
          have := HMS.out W9 _ H9.out.1
          simp only [m1, m2]
          simpa using this
      · have HEN : Hid (PR = (⟨[], [], ts, []⟩, st)) := by
          show PR = _
          rw [HG.out.2.2.1, ptxF_end zs len k st hmore]
          simp
        have HGB : Hid (GS g D a len cap zs W1 wr st ⟨⟨none, 0, 0⟩, ⟨none, 0, 0⟩, s3, ⟨none, 0, 0⟩⟩ ⟨[], [], ts, []⟩) := HG0.out.texts HLT.out HG.out.1 HG.out.2.1
        have HBB : Hid (Bd ⟨[], [], ts, []⟩) := by
          have h1 := HG.out.2.2.2.2.1
          have h2 := tsum_small ts len HG.out.2.2.2.2.2
          refine ⟨by simp, by simp, by simp, ?_, by simp⟩
          have h3 : ts.length * (len + 1) ≤ 100000 * 100001 := Nat.mul_le_mul (by omega) (by omega)
          show (ts.map tz).sum ≤ _
          omega
        clear HG HPR
        cases st with
        | none =>
          have hm : MBlk wr g (.slice none 0 0) 0 true := HGB.out.rd.m
          have m1 := hm.c1
          have m2 := hm.c2
          have hgl := hm.lt
          clear hm
          go_wp2_with fail
          have d0 : wr.cell? ⟨D, 0, none⟩ = some (.slice none 0 0) := HGB.out.rd.d.box.1
          have d1 : wr.cell? ⟨D, 1, none⟩ = some (.slice none 0 0) := HGB.out.rd.d.box.2.1
          have d2 : wr.cell? ⟨D, 2, none⟩ = some (.slice s3.a s3.n s3.c) := HGB.out.rd.d.box.2.2.1
          have d3 : wr.cell? ⟨D, 3, none⟩ = some (.slice none 0 0) := HGB.out.rd.d.box.2.2.2.1
          have dl := HGB.out.rd.d.lt
          have eb : wr.cell? ⟨g, 2, none⟩ = some (.bool true) := MBlk.c2 (t := .slice none 0 0) (k := 0) HGB.out.rd.m
          have r0 : wr.cell? ⟨R, 0, none⟩ = some (.slice none 0 0) := (HN.out.1.rblk HGB.out.kp).box.1
          have r1 : wr.cell? ⟨R, 1, none⟩ = some (.slice none 0 0) := (HN.out.1.rblk HGB.out.kp).box.2.1
          have r2 : wr.cell? ⟨R, 2, none⟩ = some (.slice none 0 0) := (HN.out.1.rblk HGB.out.kp).box.2.2.1
          have r3 : wr.cell? ⟨R, 3, none⟩ = some (.slice none 0 0) := (HN.out.1.rblk HGB.out.kp).box.2.2.2.1
          have rz0 := (HN.out.1.rblk HGB.out.kp).fz 0
          have rz1 := (HN.out.1.rblk HGB.out.kp).fz 1
          have rz2 := (HN.out.1.rblk HGB.out.kp).fz 2
          have rz3 := (HN.out.1.rblk HGB.out.kp).fz 3
          have rl := (HN.out.1.rblk HGB.out.kp).lt
          go_upto_region 22 with fail
          go_region_held3 (fun V => V.cell? ⟨D, 0, none⟩ = some (.slice none 0 0) ∧ V.cell? ⟨D, 1, none⟩ = some (.slice none 0 0) ∧ V.cell? ⟨D, 2, none⟩ = some (.slice s3.a s3.n s3.c) ∧ V.cell? ⟨D, 3, none⟩ = some (.slice none 0 0) ∧ V.cell? ⟨g, 2, none⟩ = some (.bool true)) (exact ⟨by go_keep, by go_keep, by go_keep, by go_keep, by go_keep⟩) (fail)
          all_goals
            go_wp2_with fail
            have H8 : Hid (DBlk (((((wr.setCell ⟨R, 0, none⟩ (.slice none 0 0)).setCell ⟨R, 1, none⟩ (.slice none 0 0)).setCell ⟨R, 2, none⟩ (.slice s3.a s3.n s3.c)).setCell ⟨R, 3, none⟩ (.slice none 0 0)).drew) R ⟨⟨none, 0, 0⟩, ⟨none, 0, 0⟩, s3, ⟨none, 0, 0⟩⟩ ∧ Below w.heap.size w (((((wr.setCell ⟨R, 0, none⟩ (.slice none 0 0)).setCell ⟨R, 1, none⟩ (.slice none 0 0)).setCell ⟨R, 2, none⟩ (.slice s3.a s3.n s3.c)).setCell ⟨R, 3, none⟩ (.slice none 0 0)).drew) ∧ DOwn w.heap.size (((((wr.setCell ⟨R, 0, none⟩ (.slice none 0 0)).setCell ⟨R, 1, none⟩ (.slice none 0 0)).setCell ⟨R, 2, none⟩ (.slice s3.a s3.n s3.c)).setCell ⟨R, 3, none⟩ (.slice none 0 0)).drew) ⟨⟨none, 0, 0⟩, ⟨none, 0, 0⟩, s3, ⟨none, 0, 0⟩⟩ ⟨[], [], ts, []⟩) := ⟨(GB.final (x := ⟨⟨none, 0, 0⟩, ⟨none, 0, 0⟩, s3, ⟨none, 0, 0⟩⟩) (d := ⟨[], [], ts, []⟩) HN.out.1 HGB.out.kp HGB.out.own).1, (GB.final (x := ⟨⟨none, 0, 0⟩, ⟨none, 0, 0⟩, s3, ⟨none, 0, 0⟩⟩) (d := ⟨[], [], ts, []⟩) HN.out.1 HGB.out.kp HGB.out.own).2.1, GB.owned (x := ⟨⟨none, 0, 0⟩, ⟨none, 0, 0⟩, s3, ⟨none, 0, 0⟩⟩) (d := ⟨[], [], ts, []⟩) HN.out.1 HGB.out.own⟩
            generalize (((((wr.setCell ⟨R, 0, none⟩ (.slice none 0 0)).setCell ⟨R, 1, none⟩ (.slice none 0 0)).setCell ⟨R, 2, none⟩ (.slice s3.a s3.n s3.c)).setCell ⟨R, 3, none⟩ (.slice none 0 0)).drew) = W88 at *
            have k0 := H8.out.1.box.1
            have k1 := H8.out.1.box.2.1
            have k2 := H8.out.1.box.2.2.1
            have k3 := H8.out.1.box.2.2.2.1
            simp only at k0 k1 k2 k3
            refine bodyPost_ret (v := .tuple #[.agg #[.slice none 0 0, .slice none 0 0, .slice s3.a s3.n s3.c, .slice none 0 0], .bool false]) (by simp [results, Try.results53, go_sem, k0, k1, k2, k3]) rfl ?_
            exact .inl ⟨⟨⟨none, 0, 0⟩, ⟨none, 0, 0⟩, s3, ⟨none, 0, 0⟩⟩, rfl, H8.out.2.1, by rw [HEN.out]; simp⟩
        | some r =>
          have hpl : ¬ (r : Int) < (len : Int) := by simp only [lft] at hmore; omega
          have m1 : wr.cell? ⟨g, 1, none⟩ = some (.int .i64 (r : Int)) := HGB.out.rd.m.1.c1
          have m2 : wr.cell? ⟨g, 2, none⟩ = some (.bool false) := HGB.out.rd.m.1.c2
          have hgl := HGB.out.rd.m.1.lt
          go_wp2_with fail
          have d0 : wr.cell? ⟨D, 0, none⟩ = some (.slice none 0 0) := HGB.out.rd.d.box.1
          have d1 : wr.cell? ⟨D, 1, none⟩ = some (.slice none 0 0) := HGB.out.rd.d.box.2.1
          have d2 : wr.cell? ⟨D, 2, none⟩ = some (.slice s3.a s3.n s3.c) := HGB.out.rd.d.box.2.2.1
          have d3 : wr.cell? ⟨D, 3, none⟩ = some (.slice none 0 0) := HGB.out.rd.d.box.2.2.2.1
          have dl := HGB.out.rd.d.lt
          have eb : wr.cell? ⟨g, 2, none⟩ = some (.bool false) := HGB.out.rd.m.1.c2
          have r0 : wr.cell? ⟨R, 0, none⟩ = some (.slice none 0 0) := (HN.out.1.rblk HGB.out.kp).box.1
          have r1 : wr.cell? ⟨R, 1, none⟩ = some (.slice none 0 0) := (HN.out.1.rblk HGB.out.kp).box.2.1
          have r2 : wr.cell? ⟨R, 2, none⟩ = some (.slice none 0 0) := (HN.out.1.rblk HGB.out.kp).box.2.2.1
          have r3 : wr.cell? ⟨R, 3, none⟩ = some (.slice none 0 0) := (HN.out.1.rblk HGB.out.kp).box.2.2.2.1
          have rz0 := (HN.out.1.rblk HGB.out.kp).fz 0
          have rz1 := (HN.out.1.rblk HGB.out.kp).fz 1
          have rz2 := (HN.out.1.rblk HGB.out.kp).fz 2
          have rz3 := (HN.out.1.rblk HGB.out.kp).fz 3
          have rl := (HN.out.1.rblk HGB.out.kp).lt
          go_upto_region 22 with fail
          go_region_held3 (fun V => V.cell? ⟨D, 0, none⟩ = some (.slice none 0 0) ∧ V.cell? ⟨D, 1, none⟩ = some (.slice none 0 0) ∧ V.cell? ⟨D, 2, none⟩ = some (.slice s3.a s3.n s3.c) ∧ V.cell? ⟨D, 3, none⟩ = some (.slice none 0 0) ∧ V.cell? ⟨g, 2, none⟩ = some (.bool false)) (exact ⟨by go_keep, by go_keep, by go_keep, by go_keep, by go_keep⟩) (fail)
          all_goals
            go_wp2_with fail
            have H8 : Hid (DBlk (((((wr.setCell ⟨R, 0, none⟩ (.slice none 0 0)).setCell ⟨R, 1, none⟩ (.slice none 0 0)).setCell ⟨R, 2, none⟩ (.slice s3.a s3.n s3.c)).setCell ⟨R, 3, none⟩ (.slice none 0 0)).drew) R ⟨⟨none, 0, 0⟩, ⟨none, 0, 0⟩, s3, ⟨none, 0, 0⟩⟩ ∧ Below w.heap.size w (((((wr.setCell ⟨R, 0, none⟩ (.slice none 0 0)).setCell ⟨R, 1, none⟩ (.slice none 0 0)).setCell ⟨R, 2, none⟩ (.slice s3.a s3.n s3.c)).setCell ⟨R, 3, none⟩ (.slice none 0 0)).drew) ∧ DOwn w.heap.size (((((wr.setCell ⟨R, 0, none⟩ (.slice none 0 0)).setCell ⟨R, 1, none⟩ (.slice none 0 0)).setCell ⟨R, 2, none⟩ (.slice s3.a s3.n s3.c)).setCell ⟨R, 3, none⟩ (.slice none 0 0)).drew) ⟨⟨none, 0, 0⟩, ⟨none, 0, 0⟩, s3, ⟨none, 0, 0⟩⟩ ⟨[], [], ts, []⟩) := ⟨(GB.final (x := ⟨⟨none, 0, 0⟩, ⟨none, 0, 0⟩, s3, ⟨none, 0, 0⟩⟩) (d := ⟨[], [], ts, []⟩) HN.out.1 HGB.out.kp HGB.out.own).1, (GB.final (x := ⟨⟨none, 0, 0⟩, ⟨none, 0, 0⟩, s3, ⟨none, 0, 0⟩⟩) (d := ⟨[], [], ts, []⟩) HN.out.1 HGB.out.kp HGB.out.own).2.1, GB.owned (x := ⟨⟨none, 0, 0⟩, ⟨none, 0, 0⟩, s3, ⟨none, 0, 0⟩⟩) (d := ⟨[], [], ts, []⟩) HN.out.1 HGB.out.own⟩
            generalize (((((wr.setCell ⟨R, 0, none⟩ (.slice none 0 0)).setCell ⟨R, 1, none⟩ (.slice none 0 0)).setCell ⟨R, 2, none⟩ (.slice s3.a s3.n s3.c)).setCell ⟨R, 3, none⟩ (.slice none 0 0)).drew) = W88 at *
            have k0 := H8.out.1.box.1
            have k1 := H8.out.1.box.2.1
            have k2 := H8.out.1.box.2.2.1
            have k3 := H8.out.1.box.2.2.2.1
            simp only at k0 k1 k2 k3
            refine bodyPost_ret (v := .tuple #[.agg #[.slice none 0 0, .slice none 0 0, .slice s3.a s3.n s3.c, .slice none 0 0], .bool true]) (by simp [results, Try.results53, go_sem, k0, k1, k2, k3]) rfl ?_
            exact .inr ⟨⟨⟨none, 0, 0⟩, ⟨none, 0, 0⟩, s3, ⟨none, 0, 0⟩⟩, ⟨[], [], ts, []⟩, rfl, H8.out.2.2, HBB.out, H8.out.2.1, fun _ => by rw [HEN.out], by simp⟩
end Go.Proofs.Ytdeoembjfdbbkaa
/- The document's own answer: what data bytes may be: two texts. -/
namespace Go.Proofs.Ytdeoembjfdbbkaa
open Go.ChangeShapes Go.WideShapes Go.ChangeAt Go.RowKit
set_option linter.unusedVariables false
set_option linter.unusedSimpArgs false

theorem two_own (W : World) (B : Nat) (hB : B ≤ W.heap.size) (f1 f2 : ByteArray) (h1 : f1.size ≤ 1000000000000) (h2 : f2.size ≤ 1000000000000) : Own1 B (W.alloc (.cells #[.string f1, .string f2] 9)) ⟨some ⟨W.heap.size, 0, none⟩, 2, 2⟩ [f1, f2] :=
  ⟨[f1, f2], ⟨.inr ⟨W.heap.size, rfl, hB, heap_alloc_new _ _, by simp [tv], by simp [tv, maxLen]⟩, by intro s hs; simp at hs; rcases hs with rfl | rfl; exact h1; exact h2⟩, rfl⟩
theorem tk_none (zs : List Int) (n : Int) : tk zs none n = [] := rfl
set_option maxRecDepth 100000 in
set_option maxHeartbeats 8000000 in
theorem guess_caa (t : Nat) (ht : t ≠ 6) (a : Option Addr) (len cap : Nat) (zs : List Int) (w : World) (hr : Rd w a zs) (hl : zs.length = len) (hc : len ≤ cap ∧ cap ≤ 9223372036854775807) (hb : len ≤ 1000000) (hnil : a = none → cap = 0) :
    Calls Try.prog 53 #[.int .u16 t, .agg #[.int .i64 0, .int .i64 1, .int .i64 2, .int .i64 0, .int .i64 1], .slice a len cap] w (GQ (pread ⟨0, 0, 1, 1, 2, 1, 1, 0⟩ zs len) len w) := by
  have q6 : ((t : Int) == 6) = false := by simp; omega
  have q6n : ((t : Int) != 6) = true := by simp; omega
  have HN : Hid (GB w.heap.size (w.heap.size + 1) (w.heap.size + 1 + 1 + 1) (w.heap.size + 1 + 1) ⟨0, 1, 2, 0, 1⟩ w ((((w.alloc (.cells #[.int .i64 0, .int .i64 1, .int .i64 2, .int .i64 0, .int .i64 1] 67)).alloc (.cells #[.slice none 0 0, .slice none 0 0, .slice none 0 0, .slice none 0 0] 29)).alloc (.cells #[.slice none 0 0, .slice none 0 0, .slice none 0 0, .slice none 0 0] 29)).alloc (.cells #[.slice a len cap, .int .i64 0, .bool false] 99)) ∧ GRd (w.heap.size + 1 + 1 + 1) (w.heap.size + 1 + 1) a len cap zs (some 0) nilDA ((((w.alloc (.cells #[.int .i64 0, .int .i64 1, .int .i64 2, .int .i64 0, .int .i64 1] 67)).alloc (.cells #[.slice none 0 0, .slice none 0 0, .slice none 0 0, .slice none 0 0] 29)).alloc (.cells #[.slice none 0 0, .slice none 0 0, .slice none 0 0, .slice none 0 0] 29)).alloc (.cells #[.slice a len cap, .int .i64 0, .bool false] 99)) ((((w.alloc (.cells #[.int .i64 0, .int .i64 1, .int .i64 2, .int .i64 0, .int .i64 1] 67)).alloc (.cells #[.slice none 0 0, .slice none 0 0, .slice none 0 0, .slice none 0 0] 29)).alloc (.cells #[.slice none 0 0, .slice none 0 0, .slice none 0 0, .slice none 0 0] 29)).alloc (.cells #[.slice a len cap, .int .i64 0, .bool false] 99))) := guess_new ⟨0, 1, 2, 0, 1⟩ a len cap zs w hr hl hc (by omega) hnil
  have HL : Hid (zs.length = len) := hl
  have HBY : Hid (∀ z ∈ zs, 0 ≤ z ∧ z ≤ 255) := hr.2
  have HW : Hid (0 < 1 → 1 ≤ 1 ∧ 1 ≤ 4) := fun _ => by omega
  have HNU : Hid (1 ≤ 100) := (show 1 ≤ 100 by omega)
  have HPR : Hid (pread ⟨0, 0, 1, 1, 2, 1, 1, 0⟩ zs len = (⟨[], (pnus zs len (some 0) 1 1).1, (ptx2 zs len (pnus zs len (some 0) 1 1).2).1, []⟩, (ptx2 zs len (pnus zs len (some 0) 1 1).2).2)) := pread_caa zs len
  generalize pread ⟨0, 0, 1, 1, 2, 1, 1, 0⟩ zs len = PR at *
  clear hr hl hc hnil ht
  go_enter Try.func53, Try.ntmps53
  go_upto_region 3 with fail
  generalize ((((w.alloc (.cells #[.int .i64 0, .int .i64 1, .int .i64 2, .int .i64 0, .int .i64 1] 67)).alloc (.cells #[.slice none 0 0, .slice none 0 0, .slice none 0 0, .slice none 0 0] 29)).alloc (.cells #[.slice none 0 0, .slice none 0 0, .slice none 0 0, .slice none 0 0] 29)).alloc (.cells #[.slice a len cap, .int .i64 0, .bool false] 99)) = Wb at *
  obtain ⟨g, hg⟩ : ∃ g, w.heap.size + 1 + 1 + 1 = g := ⟨_, rfl⟩
  obtain ⟨D, hD⟩ : ∃ D, w.heap.size + 1 + 1 = D := ⟨_, rfl⟩
  obtain ⟨R, hR⟩ : ∃ R, w.heap.size + 1 = R := ⟨_, rfl⟩
  obtain ⟨S, hS⟩ : ∃ S, w.heap.size = S := ⟨_, rfl⟩
  rw [hg, hD, hR] at HN
  rw [hg, hD, hR]
  have HS : Hid (w.heap.size = S) := hS
  rw [hS] at HN ⊢
  clear hg hD hR hS
  have HF : Hid (∀ V, Kp g D Wb V → V.cell? ⟨S, 0, none⟩ = some (.int .i64 0) ∧ V.cell? ⟨S, 1, none⟩ = some (.int .i64 1) ∧ V.cell? ⟨S, 2, none⟩ = some (.int .i64 2) ∧ V.cell? ⟨S, 3, none⟩ = some (.int .i64 0) ∧ V.cell? ⟨S, 4, none⟩ = some (.int .i64 1) ∧ S < V.heap.size) := fun V hV => HN.out.1.sbox hV
  have HLT : Hid (g < Wb.heap.size ∧ D < Wb.heap.size) := HN.out.2.lt
  have hSD : ¬ S = D := HN.out.1.ne.2.1
  have hSg : ¬ S = g := HN.out.1.ne.1
  have hgD : ¬ g = D := HN.out.2.ne
  have hRg : ¬ R = g := HN.out.1.ne.2.2.1
  have hRD : ¬ R = D := HN.out.1.ne.2.2.2.1
  have hDg : ¬ D = g := by omega
  have hDR : ¬ D = R := by omega
  have hgR : ¬ g = R := by omega
  have hSR : ¬ S = R := HN.out.1.ne.2.2.2.2
  have hRS : ¬ R = S := by omega
  have HG0 : Hid (GS g D a len cap zs Wb Wb (some 0) nilDA nilD) := GS.new HN.out.2
  have t0 := (HF.out Wb (Kp.refl _ _ _)).1
  have t1 := (HF.out Wb (Kp.refl _ _ _)).2.1
  have t2 := (HF.out Wb (Kp.refl _ _ _)).2.2.1
  have t3 := (HF.out Wb (Kp.refl _ _ _)).2.2.2.1
  have t4 := (HF.out Wb (Kp.refl _ _ _)).2.2.2.2.1
  have tS := (HF.out Wb (Kp.refl _ _ _)).2.2.2.2.2
  go_wp2_with fail
  clear t0 t1 t2 t3 t4 tS
  have hnub : 1 ≤ 100 := HNU.out
  go_loopw [11] (fun i wr => ∃ k : Nat, k ≤ 1 ∧ i = .int .i64 (k : Int) ∧ ∃ s2 : Sl, Hid (GRd g D a len cap zs (pnus zs len (some 0) 1 k).2 ⟨⟨none, 0, 0⟩, s2, ⟨none, 0, 0⟩, ⟨none, 0, 0⟩⟩ Wb wr ∧ UOwn Wb.heap.size wr s2 (pnus zs len (some 0) 1 k).1)) (fun i _ => 1 - (intOf i).toNat)
  case atStart => exact ⟨0, Nat.zero_le _, rfl, ⟨none, 0, 0⟩, HG0.out.rd, nil_uown _ _⟩
  case round =>
    obtain ⟨k, hk, rfl, s2, HG⟩ := hrel
    have HKP : Hid (Kp g D Wb wr) := HG0.out.kp.trans HG.out.1.k
    have t0 := (HF.out wr HKP.out).1
    have t1 := (HF.out wr HKP.out).2.1
    have t2 := (HF.out wr HKP.out).2.2.1
    have t3 := (HF.out wr HKP.out).2.2.2.1
    have t4 := (HF.out wr HKP.out).2.2.2.2.1
    have tS := (HF.out wr HKP.out).2.2.2.2.2
    by_cases hlt : k < 1
    · have hlt' : (k : Int) < 1 := by omega
      have HSUC : Hid (pnus zs len (some 0) 1 (k + 1) = ((pnus zs len (some 0) 1 k).1 ++ [pnu zs (pnus zs len (some 0) 1 k).2 1], mv len (pnus zs len (some 0) 1 k).2 ((1 : Nat) : Int))) := pnus_succ zs len (some 0) 1 k
      have hk5 : (pnus zs len (some 0) 1 k).1.length ≤ 1000 := by rw [pnus_len]; have := HNU.out; omega
      have hwd := HW.out (by omega)
      have hu := pnu_le zs HBY.out (pnus zs len (some 0) 1 k).2 1 hwd.2
      have KN : Hid (∀ V, GRd g D a len cap zs (pnus zs len (some 0) 1 k).2 ⟨⟨none, 0, 0⟩, s2, ⟨none, 0, 0⟩, ⟨none, 0, 0⟩⟩ Wb V → Calls Try.prog 78 #[.pointer (some ⟨g, 0, none⟩), .int .i64 1] V fun e w' => e = .returned (.int .u64 ((pnu zs (pnus zs len (some 0) 1 k).2 1 : Nat) : Int)) ∧ Hid (GRd g D a len cap zs (mv len (pnus zs len (some 0) 1 k).2 ((1 : Nat) : Int)) ⟨⟨none, 0, 0⟩, s2, ⟨none, 0, 0⟩, ⟨none, 0, 0⟩⟩ Wb w' ∧ V.grownBy w' (some g))) := fun V hV => gnum g D a len cap zs (pnus zs len (some 0) 1 k).2 ⟨⟨none, 0, 0⟩, s2, ⟨none, 0, 0⟩, ⟨none, 0, 0⟩⟩ Wb V 1 hwd.1 hwd.2 hV
      generalize hmv : mv len (pnus zs len (some 0) 1 k).2 ((1 : Nat) : Int) = st1 at *
      generalize hpu : pnu zs (pnus zs len (some 0) 1 k).2 1 = u at *
      generalize hus : (pnus zs len (some 0) 1 k).1 = us at *
      generalize hst : (pnus zs len (some 0) 1 k).2 = st at *
      clear hmv hpu hus hst hwd
      have hum := u32w u hu
      have d1 : wr.cell? ⟨D, 1, none⟩ = some (.slice s2.a s2.n s2.c) := HG.out.1.d.box.2.1
      have hDl := HG.out.1.d.lt
      go_wp2_with fail
      go_region_law (first
        | (refine st_nums rfl _ _ rfl Wb.heap.size s2 us rfl (H6.out.2.stays (new_below _ _)) ⟨W5.heap.size, 0, none⟩ rfl u (one_u _ _) hu hk5 (Nat.le_trans H6.out.1.k.size (by simp)) ?_; intro t' W7 H7 HG7; have H8 : Hid (GRd g D a len cap zs st1 ⟨⟨none, 0, 0⟩, s2, ⟨none, 0, 0⟩, ⟨none, 0, 0⟩⟩ Wb W7) := (H6.out.1.go (new_below _ _)).own HG7.out.1 HG7.out.2; have f1 : W7.cell? ⟨D, 1, none⟩ = some (.slice s2.a s2.n s2.c) := H8.out.d.box.2.1; have hf := H8.out.d.fz 1; have hD7 := H8.out.d.lt)
        | (go_simp; go_at_call 78; refine (KN.out _ (HG.out.1.go (Below.refl _ _).drew)).mono ?_; rintro e W5 ⟨rfl, H5⟩; have H6 : Hid (GRd g D a len cap zs st1 ⟨⟨none, 0, 0⟩, s2, ⟨none, 0, 0⟩, ⟨none, 0, 0⟩⟩ Wb W5 ∧ UOwn Wb.heap.size W5 s2 us) := ⟨H5.out.1, HG.out.2.keep (fun j h1 h2 => H5.out.2.block j h2 (fun e => by have := HG.out.1.lt; have := Option.some.inj e; omega))⟩; have hD5 : D < W5.heap.size := H6.out.1.d.lt; have e1 : W5.cell? ⟨D, 1, none⟩ = some (.slice s2.a s2.n s2.c) := H6.out.1.d.box.2.1; have e4 := (HF.out W5 (HG0.out.kp.trans H6.out.1.k)).2.2.2.2.1; have e5 := (HF.out W5 (HG0.out.kp.trans H6.out.1.k)).2.2.2.2.2))
      all_goals
        have H9 : Hid (GRd g D a len cap zs st1 ⟨⟨none, 0, 0⟩, t', ⟨none, 0, 0⟩, ⟨none, 0, 0⟩⟩ Wb (W7.setCell ⟨D, 1, none⟩ (.slice t'.a t'.n t'.c)) ∧ UOwn Wb.heap.size (W7.setCell ⟨D, 1, none⟩ (.slice t'.a t'.n t'.c)) t' (us ++ [u])) := ⟨H8.out.set 1 _ (H8.out.d.set1 t'), H7.out.keep (fun j h1 h2 => Below.heap_setCell _ _ _ j (by have := H8.out.lt; show j ≠ D; omega))⟩
        clear H8 H7 HG7 H6 H5 HG KN
        generalize (W7.setCell ⟨D, 1, none⟩ (.slice t'.a t'.n t'.c)) = W9 at *
        go_wp2_with fail
        exact ⟨⟨k + 1, by omega, by go_num, t', by rw [HSUC.out]; exact H9.out⟩, by simp [intOf]; omega⟩
    · have hge : ¬ (k : Int) < 1 := by omega
      have hkn : k = 1 := by omega
      subst hkn
      have HGB : Hid (GS g D a len cap zs Wb wr (pnus zs len (some 0) 1 1).2 ⟨⟨none, 0, 0⟩, s2, ⟨none, 0, 0⟩, ⟨none, 0, 0⟩⟩ ⟨[], (pnus zs len (some 0) 1 1).1, [], []⟩) := HG0.out.nums HLT.out HG.out.1 HG.out.2
      clear HG
      have HUL : Hid ((pnus zs len (some 0) 1 1).1.length = 1) := pnus_len _ _ _ _ _
      generalize hP : pnus zs len (some 0) 1 1 = PU at *
      clear hP
      obtain ⟨us, st⟩ := PU
      simp only at HGB HPR HUL
      go_wp2_with fail
      obtain ⟨wz, hz⟩ : ∃ z, z = wr := ⟨_, rfl⟩
      subst hz
      go_loopw [] (fun wr => wr = wz) (fun _ => 0)
      case atStart => rfl
      case round =>
        have hwr := hrel
        subst hwr
        have hvz := pnu_bd zs HBY.out st 1 (by omega)
        have K1 : Hid (Calls Try.prog 78 #[.pointer (some ⟨g, 0, none⟩), .int .i64 1] wr fun e w' => e = .returned (.int .u64 ((pnu zs st 1 : Nat) : Int)) ∧ Hid (GRd g D a len cap zs (mv len st 1) ⟨⟨none, 0, 0⟩, s2, ⟨none, 0, 0⟩, ⟨none, 0, 0⟩⟩ wr w' ∧ wr.grownBy w' (some g))) := gnum g D a len cap zs st ⟨⟨none, 0, 0⟩, s2, ⟨none, 0, 0⟩, ⟨none, 0, 0⟩⟩ wr wr 1 (by omega) (by omega) HGB.out.rd
        have K2 : Hid (∀ V, GRd g D a len cap zs (mv len st 1) ⟨⟨none, 0, 0⟩, s2, ⟨none, 0, 0⟩, ⟨none, 0, 0⟩⟩ wr V → Calls Try.prog 79 #[.pointer (some ⟨g, 0, none⟩), .int .i64 ((pnu zs st 1 : Nat) : Int)] V fun e w' => ∃ s : Sl, e = .returned (.slice s.a s.n s.c) ∧ Hid (BRd w' s (tk zs (mv len st 1) ((pnu zs st 1 : Nat) : Int)) ∧ GRd g D a len cap zs (mv len (mv len st 1) ((pnu zs st 1 : Nat) : Int)) ⟨⟨none, 0, 0⟩, s2, ⟨none, 0, 0⟩, ⟨none, 0, 0⟩⟩ wr w' ∧ V.grownBy w' (some g))) := fun V hV => gtake g D a len cap zs _ ⟨⟨none, 0, 0⟩, s2, ⟨none, 0, 0⟩, ⟨none, 0, 0⟩⟩ wr V _ hV
        have K3 : Hid (∀ V n, GRd g D a len cap zs (mv len (mv len st 1) ((pnu zs st 1 : Nat) : Int)) ⟨⟨none, 0, 0⟩, s2, ⟨none, 0, 0⟩, ⟨none, 0, 0⟩⟩ wr V → Calls Try.prog 79 #[.pointer (some ⟨g, 0, none⟩), .int .i64 n] V fun e w' => ∃ s : Sl, e = .returned (.slice s.a s.n s.c) ∧ Hid (BRd w' s (tk zs (mv len (mv len st 1) ((pnu zs st 1 : Nat) : Int)) n) ∧ GRd g D a len cap zs (mv len (mv len (mv len st 1) ((pnu zs st 1 : Nat) : Int)) n) ⟨⟨none, 0, 0⟩, s2, ⟨none, 0, 0⟩, ⟨none, 0, 0⟩⟩ wr w' ∧ V.grownBy w' (some g))) := fun V n hV => gtake g D a len cap zs _ ⟨⟨none, 0, 0⟩, s2, ⟨none, 0, 0⟩, ⟨none, 0, 0⟩⟩ wr V n hV
        have hw64 := i64w (pnu zs st 1) hvz.1
        have HSZ : Hid ((tk zs (mv len st 1) ((pnu zs st 1 : Nat) : Int)).length ≤ len ∧ ∀ n, (tk zs (mv len (mv len st 1) ((pnu zs st 1 : Nat) : Int)) n).length ≤ len) := ⟨tk_size zs len HL.out _ _, fun n => tk_size zs len HL.out _ n⟩
        have HP2 : Hid (PR = (⟨[], us, [lb (tk zs (mv len st 1) ((pnu zs st 1 : Nat) : Int)), lb (tk zs (mv len (mv len st 1) ((pnu zs st 1 : Nat) : Int)) (lft len (mv len (mv len st 1) ((pnu zs st 1 : Nat) : Int))))], []⟩, mv len (mv len (mv len st 1) ((pnu zs st 1 : Nat) : Int)) (lft len (mv len (mv len st 1) ((pnu zs st 1 : Nat) : Int))))) := by
          show PR = _
          rw [HPR.out, hvz.2]
          rfl
        clear hvz HPR
        generalize htk : tk zs (mv len st 1) ((pnu zs st 1 : Nat) : Int) = tz at *
        generalize hst2 : mv len (mv len st 1) ((pnu zs st 1 : Nat) : Int) = st2 at *
        generalize hst1 : mv len st 1 = st1 at *
        generalize hu : pnu zs st 1 = u at *
        clear htk hst2 hst1 hu
        go_wp2_with fail
        refine K1.out.mono ?_
        rintro e W5 ⟨rfl, H5⟩
        go_wp2_with fail
        refine (K2.out _ H5.out.1).mono ?_
        rintro e W6 ⟨sz, rfl, H6⟩
        have hcv : (convert 27 9 (.slice sz.a sz.n sz.c)).run Try.prog W6 = .ok (.string (lb tz)) W6 := conv_rd sz.a sz.n sz.c tz W6 H6.out.1.rd H6.out.1.len
        have HG6 : Hid (GRd g D a len cap zs st2 ⟨⟨none, 0, 0⟩, s2, ⟨none, 0, 0⟩, ⟨none, 0, 0⟩⟩ wr W6) := H6.out.2.1
        clear H5 H6 K1 K2
        cases st2 with
        | none =>
          have hm : MBlk W6 g (.slice none 0 0) 0 true := HG6.out.m
          have m1 := hm.c1
          have hgl := hm.lt
          clear hm
          have hsub : IntKind.i64.wrap (len : Int) = (len : Int) := by rw [IntKind.wrap_i64]; omega
          have K4 : Hid (Calls Try.prog 79 #[.pointer (some ⟨g, 0, none⟩), .int .i64 ((len : Int))] W6 fun e w' => ∃ s : Sl, e = .returned (.slice s.a s.n s.c) ∧ Hid (BRd w' s (tk zs none ((len : Int))) ∧ GRd g D a len cap zs (mv len none ((len : Int))) ⟨⟨none, 0, 0⟩, s2, ⟨none, 0, 0⟩, ⟨none, 0, 0⟩⟩ wr w' ∧ W6.grownBy w' (some g))) := K3.out W6 _ HG6.out
          have HSZ2 : Hid ((lb tz).size ≤ 1000000 ∧ (lb (tk zs none ((len : Int)))).size ≤ 1000000) := ⟨by rw [lb_size]; have := HSZ.out.1; omega, by rw [lb_size]; have := HSZ.out.2 ((len : Int)); omega⟩
          have HP3 : Hid (PR.2 ≠ some len) := by
            show PR.2 ≠ some len
            rw [HP2.out]
            simp [mv]
          have HMV : Hid (mv len none (len : Int) = none) := (show _ = _ from rfl)
          rw [HMV.out] at K4
          generalize htk2 : tk zs none ((len : Int)) = tz2 at *
          clear htk2 HP2 HSZ K3 HMV
          go_wp2_with fail
          refine K4.out.mono ?_
          rintro e W7 ⟨sy, rfl, H7⟩
          have hcv2 : (convert 27 9 (.slice sy.a sy.n sy.c)).run Try.prog W7 = .ok (.string (lb tz2)) W7 := conv_rd sy.a sy.n sy.c tz2 W7 H7.out.1.rd H7.out.1.len
          have HG7 : Hid (GRd g D a len cap zs none ⟨⟨none, 0, 0⟩, s2, ⟨none, 0, 0⟩, ⟨none, 0, 0⟩⟩ wr W7) := H7.out.2.1
          have d2 : W7.cell? ⟨D, 2, none⟩ = some (.slice none 0 0) := HG7.out.d.box.2.2.1
          have dz := HG7.out.d.fz 2
          have hDl := HG7.out.d.lt
          clear H7 K4 HG6 hcv m1
          go_upto_region 20 with fail
          have HG8 : Hid (GRd g D a len cap zs none ⟨⟨none, 0, 0⟩, s2, ⟨some ⟨W7.heap.size, 0, none⟩, 2, 2⟩, ⟨none, 0, 0⟩⟩ wr ((W7.setCell ⟨D, 2, none⟩ (.slice (some ⟨W7.heap.size, 0, none⟩) 2 2)).alloc (.cells #[.string (lb tz), .string (lb tz2)] 9)) ∧ Own1 wr.heap.size ((W7.setCell ⟨D, 2, none⟩ (.slice (some ⟨W7.heap.size, 0, none⟩) 2 2)).alloc (.cells #[.string (lb tz), .string (lb tz2)] 9)) ⟨some ⟨W7.heap.size, 0, none⟩, 2, 2⟩ [lb tz, lb tz2]) := by
            have hz : (W7.setCell ⟨D, 2, none⟩ (.slice (some ⟨W7.heap.size, 0, none⟩) 2 2)).heap.size = W7.heap.size := by simp [World.setCell]
            have h1 := HG7.out.set 2 (.slice (some ⟨W7.heap.size, 0, none⟩) 2 2) (HG7.out.d.set2 ⟨some ⟨W7.heap.size, 0, none⟩, 2, 2⟩)
            have h2 := two_own (W7.setCell ⟨D, 2, none⟩ (.slice (some ⟨W7.heap.size, 0, none⟩) 2 2)) wr.heap.size (by rw [hz]; exact HG7.out.k.size) (lb tz) (lb tz2) (by have := HSZ2.out.1; omega) (by have := HSZ2.out.2; omega)
            rw [hz] at h2
            exact ⟨h1.go (new_below _ _), h2⟩
          generalize ((W7.setCell ⟨D, 2, none⟩ (.slice (some ⟨W7.heap.size, 0, none⟩) 2 2)).alloc (.cells #[.string (lb tz), .string (lb tz2)] 9)) = W9 at *
          generalize W7.heap.size = b7 at *
          have HGC : Hid (GS g D a len cap zs Wb W9 none ⟨⟨none, 0, 0⟩, s2, ⟨some ⟨b7, 0, none⟩, 2, 2⟩, ⟨none, 0, 0⟩⟩ ⟨[], us, [lb tz, lb tz2], []⟩) := HGB.out.texts HLT.out HG8.out.1 HG8.out.2
          clear HG8 HG7 HGB d2 dz hDl hcv2 t0 t1 t2 t3 t4 tS
          have t0 := (HF.out W9 HGC.out.kp).1
          have t1 := (HF.out W9 HGC.out.kp).2.1
          have t2 := (HF.out W9 HGC.out.kp).2.2.1
          have t3 := (HF.out W9 HGC.out.kp).2.2.2.1
          have t4 := (HF.out W9 HGC.out.kp).2.2.2.2.1
          have tS := (HF.out W9 HGC.out.kp).2.2.2.2.2
          go_wp2_with fail
          have d0 : W9.cell? ⟨D, 0, none⟩ = some (.slice none 0 0) := HGC.out.rd.d.box.1
          have d1 : W9.cell? ⟨D, 1, none⟩ = some (.slice s2.a s2.n s2.c) := HGC.out.rd.d.box.2.1
          have d2 : W9.cell? ⟨D, 2, none⟩ = some (.slice (some ⟨b7, 0, none⟩) 2 2) := HGC.out.rd.d.box.2.2.1
          have d3 : W9.cell? ⟨D, 3, none⟩ = some (.slice none 0 0) := HGC.out.rd.d.box.2.2.2.1
          have dl := HGC.out.rd.d.lt
          have eb : W9.cell? ⟨g, 2, none⟩ = some (.bool true) := MBlk.c2 (t := .slice none 0 0) (k := 0) HGC.out.rd.m
          have r0 : W9.cell? ⟨R, 0, none⟩ = some (.slice none 0 0) := (HN.out.1.rblk HGC.out.kp).box.1
          have r1 : W9.cell? ⟨R, 1, none⟩ = some (.slice none 0 0) := (HN.out.1.rblk HGC.out.kp).box.2.1
          have r2 : W9.cell? ⟨R, 2, none⟩ = some (.slice none 0 0) := (HN.out.1.rblk HGC.out.kp).box.2.2.1
          have r3 : W9.cell? ⟨R, 3, none⟩ = some (.slice none 0 0) := (HN.out.1.rblk HGC.out.kp).box.2.2.2.1
          have rz0 := (HN.out.1.rblk HGC.out.kp).fz 0
          have rz1 := (HN.out.1.rblk HGC.out.kp).fz 1
          have rz2 := (HN.out.1.rblk HGC.out.kp).fz 2
          have rz3 := (HN.out.1.rblk HGC.out.kp).fz 3
          have rl := (HN.out.1.rblk HGC.out.kp).lt
          go_upto_region 22 with fail
          go_region_held3 (fun V => V.cell? ⟨D, 0, none⟩ = some (.slice none 0 0) ∧ V.cell? ⟨D, 1, none⟩ = some (.slice s2.a s2.n s2.c) ∧ V.cell? ⟨D, 2, none⟩ = some (.slice (some ⟨b7, 0, none⟩) 2 2) ∧ V.cell? ⟨D, 3, none⟩ = some (.slice none 0 0) ∧ V.cell? ⟨g, 2, none⟩ = some (.bool true)) (exact ⟨by go_keep, by go_keep, by go_keep, by go_keep, by go_keep⟩) (fail)
          all_goals
            go_wp2_with fail
            have H8 : Hid (DBlk (((((W9.setCell ⟨R, 0, none⟩ (.slice none 0 0)).setCell ⟨R, 1, none⟩ (.slice s2.a s2.n s2.c)).setCell ⟨R, 2, none⟩ (.slice (some ⟨b7, 0, none⟩) 2 2)).setCell ⟨R, 3, none⟩ (.slice none 0 0)).drew) R ⟨⟨none, 0, 0⟩, s2, ⟨some ⟨b7, 0, none⟩, 2, 2⟩, ⟨none, 0, 0⟩⟩ ∧ Below w.heap.size w (((((W9.setCell ⟨R, 0, none⟩ (.slice none 0 0)).setCell ⟨R, 1, none⟩ (.slice s2.a s2.n s2.c)).setCell ⟨R, 2, none⟩ (.slice (some ⟨b7, 0, none⟩) 2 2)).setCell ⟨R, 3, none⟩ (.slice none 0 0)).drew) ∧ DOwn w.heap.size (((((W9.setCell ⟨R, 0, none⟩ (.slice none 0 0)).setCell ⟨R, 1, none⟩ (.slice s2.a s2.n s2.c)).setCell ⟨R, 2, none⟩ (.slice (some ⟨b7, 0, none⟩) 2 2)).setCell ⟨R, 3, none⟩ (.slice none 0 0)).drew) ⟨⟨none, 0, 0⟩, s2, ⟨some ⟨b7, 0, none⟩, 2, 2⟩, ⟨none, 0, 0⟩⟩ ⟨[], us, [lb tz, lb tz2], []⟩) := ⟨(GB.final (x := ⟨⟨none, 0, 0⟩, s2, ⟨some ⟨b7, 0, none⟩, 2, 2⟩, ⟨none, 0, 0⟩⟩) (d := ⟨[], us, [lb tz, lb tz2], []⟩) HN.out.1 HGC.out.kp HGC.out.own).1, (GB.final (x := ⟨⟨none, 0, 0⟩, s2, ⟨some ⟨b7, 0, none⟩, 2, 2⟩, ⟨none, 0, 0⟩⟩) (d := ⟨[], us, [lb tz, lb tz2], []⟩) HN.out.1 HGC.out.kp HGC.out.own).2.1, GB.owned (x := ⟨⟨none, 0, 0⟩, s2, ⟨some ⟨b7, 0, none⟩, 2, 2⟩, ⟨none, 0, 0⟩⟩) (d := ⟨[], us, [lb tz, lb tz2], []⟩) HN.out.1 HGC.out.own⟩
            generalize (((((W9.setCell ⟨R, 0, none⟩ (.slice none 0 0)).setCell ⟨R, 1, none⟩ (.slice s2.a s2.n s2.c)).setCell ⟨R, 2, none⟩ (.slice (some ⟨b7, 0, none⟩) 2 2)).setCell ⟨R, 3, none⟩ (.slice none 0 0)).drew) = W88 at *
            have k0 := H8.out.1.box.1
            have k1 := H8.out.1.box.2.1
            have k2 := H8.out.1.box.2.2.1
            have k3 := H8.out.1.box.2.2.2.1
            simp only at k0 k1 k2 k3
            refine bodyPost_ret (v := .tuple #[.agg #[.slice none 0 0, .slice s2.a s2.n s2.c, .slice (some ⟨b7, 0, none⟩) 2 2, .slice none 0 0], .bool false]) (by simp [results, Try.results53, go_sem, k0, k1, k2, k3]) rfl ?_
            exact .inl ⟨⟨⟨none, 0, 0⟩, s2, ⟨some ⟨b7, 0, none⟩, 2, 2⟩, ⟨none, 0, 0⟩⟩, rfl, H8.out.2.1, HP3.out⟩
        | some r =>
          have m1 : W6.cell? ⟨g, 1, none⟩ = some (.int .i64 (r : Int)) := HG6.out.m.1.c1
          have hgl := HG6.out.m.1.lt
          have hrl := HG6.out.m.2
          have hsub : IntKind.i64.wrap ((len : Int) - (r : Int)) = (len : Int) - (r : Int) := by rw [IntKind.wrap_i64]; omega
          have K4 : Hid (Calls Try.prog 79 #[.pointer (some ⟨g, 0, none⟩), .int .i64 ((len : Int) - (r : Int))] W6 fun e w' => ∃ s : Sl, e = .returned (.slice s.a s.n s.c) ∧ Hid (BRd w' s (tk zs (some r) ((len : Int) - (r : Int))) ∧ GRd g D a len cap zs (mv len (some r) ((len : Int) - (r : Int))) ⟨⟨none, 0, 0⟩, s2, ⟨none, 0, 0⟩, ⟨none, 0, 0⟩⟩ wr w' ∧ W6.grownBy w' (some g))) := K3.out W6 _ HG6.out
          have HSZ2 : Hid ((lb tz).size ≤ 1000000 ∧ (lb (tk zs (some r) ((len : Int) - (r : Int)))).size ≤ 1000000) := ⟨by rw [lb_size]; have := HSZ.out.1; omega, by rw [lb_size]; have := HSZ.out.2 ((len : Int) - (r : Int)); omega⟩
          have HP3 : Hid (PR = (⟨[], us, [lb tz, lb (tk zs (some r) ((len : Int) - (r : Int)))], []⟩, mv len (some r) ((len : Int) - (r : Int)))) := HP2.out
          have HMV : Hid (mv len (some r) ((len : Int) - (r : Int)) = some len) := by
            show _ = _
            simp only [mv]
            rw [if_pos ⟨by omega, by omega⟩]
            congr 1; omega
          rw [HMV.out] at K4 HP3
          generalize htk2 : tk zs (some r) ((len : Int) - (r : Int)) = tz2 at *
          clear htk2 HP2 HSZ K3 HMV
          go_wp2_with fail
          refine K4.out.mono ?_
          rintro e W7 ⟨sy, rfl, H7⟩
          have hcv2 : (convert 27 9 (.slice sy.a sy.n sy.c)).run Try.prog W7 = .ok (.string (lb tz2)) W7 := conv_rd sy.a sy.n sy.c tz2 W7 H7.out.1.rd H7.out.1.len
          have HG7 : Hid (GRd g D a len cap zs (some len) ⟨⟨none, 0, 0⟩, s2, ⟨none, 0, 0⟩, ⟨none, 0, 0⟩⟩ wr W7) := H7.out.2.1
          have d2 : W7.cell? ⟨D, 2, none⟩ = some (.slice none 0 0) := HG7.out.d.box.2.2.1
          have dz := HG7.out.d.fz 2
          have hDl := HG7.out.d.lt
          clear H7 K4 HG6 hcv m1
          go_upto_region 20 with fail
          have HG8 : Hid (GRd g D a len cap zs (some len) ⟨⟨none, 0, 0⟩, s2, ⟨some ⟨W7.heap.size, 0, none⟩, 2, 2⟩, ⟨none, 0, 0⟩⟩ wr ((W7.setCell ⟨D, 2, none⟩ (.slice (some ⟨W7.heap.size, 0, none⟩) 2 2)).alloc (.cells #[.string (lb tz), .string (lb tz2)] 9)) ∧ Own1 wr.heap.size ((W7.setCell ⟨D, 2, none⟩ (.slice (some ⟨W7.heap.size, 0, none⟩) 2 2)).alloc (.cells #[.string (lb tz), .string (lb tz2)] 9)) ⟨some ⟨W7.heap.size, 0, none⟩, 2, 2⟩ [lb tz, lb tz2]) := by
            have hz : (W7.setCell ⟨D, 2, none⟩ (.slice (some ⟨W7.heap.size, 0, none⟩) 2 2)).heap.size = W7.heap.size := by simp [World.setCell]
            have h1 := HG7.out.set 2 (.slice (some ⟨W7.heap.size, 0, none⟩) 2 2) (HG7.out.d.set2 ⟨some ⟨W7.heap.size, 0, none⟩, 2, 2⟩)
            have h2 := two_own (W7.setCell ⟨D, 2, none⟩ (.slice (some ⟨W7.heap.size, 0, none⟩) 2 2)) wr.heap.size (by rw [hz]; exact HG7.out.k.size) (lb tz) (lb tz2) (by have := HSZ2.out.1; omega) (by have := HSZ2.out.2; omega)
            rw [hz] at h2
            exact ⟨h1.go (new_below _ _), h2⟩
          generalize ((W7.setCell ⟨D, 2, none⟩ (.slice (some ⟨W7.heap.size, 0, none⟩) 2 2)).alloc (.cells #[.string (lb tz), .string (lb tz2)] 9)) = W9 at *
          generalize W7.heap.size = b7 at *
          have HGC : Hid (GS g D a len cap zs Wb W9 (some len) ⟨⟨none, 0, 0⟩, s2, ⟨some ⟨b7, 0, none⟩, 2, 2⟩, ⟨none, 0, 0⟩⟩ ⟨[], us, [lb tz, lb tz2], []⟩) := HGB.out.texts HLT.out HG8.out.1 HG8.out.2
          clear HG8 HG7 HGB d2 dz hDl hcv2 t0 t1 t2 t3 t4 tS
          have t0 := (HF.out W9 HGC.out.kp).1
          have t1 := (HF.out W9 HGC.out.kp).2.1
          have t2 := (HF.out W9 HGC.out.kp).2.2.1
          have t3 := (HF.out W9 HGC.out.kp).2.2.2.1
          have t4 := (HF.out W9 HGC.out.kp).2.2.2.2.1
          have tS := (HF.out W9 HGC.out.kp).2.2.2.2.2
          go_wp2_with fail
          have d0 : W9.cell? ⟨D, 0, none⟩ = some (.slice none 0 0) := HGC.out.rd.d.box.1
          have d1 : W9.cell? ⟨D, 1, none⟩ = some (.slice s2.a s2.n s2.c) := HGC.out.rd.d.box.2.1
          have d2 : W9.cell? ⟨D, 2, none⟩ = some (.slice (some ⟨b7, 0, none⟩) 2 2) := HGC.out.rd.d.box.2.2.1
          have d3 : W9.cell? ⟨D, 3, none⟩ = some (.slice none 0 0) := HGC.out.rd.d.box.2.2.2.1
          have dl := HGC.out.rd.d.lt
          have eb : W9.cell? ⟨g, 2, none⟩ = some (.bool false) := HGC.out.rd.m.1.c2
          have r0 : W9.cell? ⟨R, 0, none⟩ = some (.slice none 0 0) := (HN.out.1.rblk HGC.out.kp).box.1
          have r1 : W9.cell? ⟨R, 1, none⟩ = some (.slice none 0 0) := (HN.out.1.rblk HGC.out.kp).box.2.1
          have r2 : W9.cell? ⟨R, 2, none⟩ = some (.slice none 0 0) := (HN.out.1.rblk HGC.out.kp).box.2.2.1
          have r3 : W9.cell? ⟨R, 3, none⟩ = some (.slice none 0 0) := (HN.out.1.rblk HGC.out.kp).box.2.2.2.1
          have rz0 := (HN.out.1.rblk HGC.out.kp).fz 0
          have rz1 := (HN.out.1.rblk HGC.out.kp).fz 1
          have rz2 := (HN.out.1.rblk HGC.out.kp).fz 2
          have rz3 := (HN.out.1.rblk HGC.out.kp).fz 3
          have rl := (HN.out.1.rblk HGC.out.kp).lt
          go_upto_region 22 with fail
          go_region_held3 (fun V => V.cell? ⟨D, 0, none⟩ = some (.slice none 0 0) ∧ V.cell? ⟨D, 1, none⟩ = some (.slice s2.a s2.n s2.c) ∧ V.cell? ⟨D, 2, none⟩ = some (.slice (some ⟨b7, 0, none⟩) 2 2) ∧ V.cell? ⟨D, 3, none⟩ = some (.slice none 0 0) ∧ V.cell? ⟨g, 2, none⟩ = some (.bool false)) (exact ⟨by go_keep, by go_keep, by go_keep, by go_keep, by go_keep⟩) (fail)
          all_goals
            go_wp2_with fail
            have H8 : Hid (DBlk (((((W9.setCell ⟨R, 0, none⟩ (.slice none 0 0)).setCell ⟨R, 1, none⟩ (.slice s2.a s2.n s2.c)).setCell ⟨R, 2, none⟩ (.slice (some ⟨b7, 0, none⟩) 2 2)).setCell ⟨R, 3, none⟩ (.slice none 0 0)).drew) R ⟨⟨none, 0, 0⟩, s2, ⟨some ⟨b7, 0, none⟩, 2, 2⟩, ⟨none, 0, 0⟩⟩ ∧ Below w.heap.size w (((((W9.setCell ⟨R, 0, none⟩ (.slice none 0 0)).setCell ⟨R, 1, none⟩ (.slice s2.a s2.n s2.c)).setCell ⟨R, 2, none⟩ (.slice (some ⟨b7, 0, none⟩) 2 2)).setCell ⟨R, 3, none⟩ (.slice none 0 0)).drew) ∧ DOwn w.heap.size (((((W9.setCell ⟨R, 0, none⟩ (.slice none 0 0)).setCell ⟨R, 1, none⟩ (.slice s2.a s2.n s2.c)).setCell ⟨R, 2, none⟩ (.slice (some ⟨b7, 0, none⟩) 2 2)).setCell ⟨R, 3, none⟩ (.slice none 0 0)).drew) ⟨⟨none, 0, 0⟩, s2, ⟨some ⟨b7, 0, none⟩, 2, 2⟩, ⟨none, 0, 0⟩⟩ ⟨[], us, [lb tz, lb tz2], []⟩) := ⟨(GB.final (x := ⟨⟨none, 0, 0⟩, s2, ⟨some ⟨b7, 0, none⟩, 2, 2⟩, ⟨none, 0, 0⟩⟩) (d := ⟨[], us, [lb tz, lb tz2], []⟩) HN.out.1 HGC.out.kp HGC.out.own).1, (GB.final (x := ⟨⟨none, 0, 0⟩, s2, ⟨some ⟨b7, 0, none⟩, 2, 2⟩, ⟨none, 0, 0⟩⟩) (d := ⟨[], us, [lb tz, lb tz2], []⟩) HN.out.1 HGC.out.kp HGC.out.own).2.1, GB.owned (x := ⟨⟨none, 0, 0⟩, s2, ⟨some ⟨b7, 0, none⟩, 2, 2⟩, ⟨none, 0, 0⟩⟩) (d := ⟨[], us, [lb tz, lb tz2], []⟩) HN.out.1 HGC.out.own⟩
            generalize (((((W9.setCell ⟨R, 0, none⟩ (.slice none 0 0)).setCell ⟨R, 1, none⟩ (.slice s2.a s2.n s2.c)).setCell ⟨R, 2, none⟩ (.slice (some ⟨b7, 0, none⟩) 2 2)).setCell ⟨R, 3, none⟩ (.slice none 0 0)).drew) = W88 at *
            have k0 := H8.out.1.box.1
            have k1 := H8.out.1.box.2.1
            have k2 := H8.out.1.box.2.2.1
            have k3 := H8.out.1.box.2.2.2.1
            simp only at k0 k1 k2 k3
            refine bodyPost_ret (v := .tuple #[.agg #[.slice none 0 0, .slice s2.a s2.n s2.c, .slice (some ⟨b7, 0, none⟩) 2 2, .slice none 0 0], .bool true]) (by simp [results, Try.results53, go_sem, k0, k1, k2, k3]) rfl ?_
            exact .inr ⟨⟨⟨none, 0, 0⟩, s2, ⟨some ⟨b7, 0, none⟩, 2, 2⟩, ⟨none, 0, 0⟩⟩, ⟨[], us, [lb tz, lb tz2], []⟩, rfl, H8.out.2.2, ⟨by simp, by simp, by have := HUL.out; simp only at *; omega, by have := HSZ2.out; simp only [tsum, List.map_cons, List.map_nil, List.sum_cons, List.sum_nil, Go.Proofs.Ytdeoembjfdbbkaa.tz]; omega, by simp⟩, H8.out.2.1, fun _ => by rw [HP3.out], by simp⟩
end Go.Proofs.Ytdeoembjfdbbkaa
/- The document's own answer: what data bytes may be: raw bytes. -/
namespace Go.Proofs.Ytdeoembjfdbbkaa
open Go.ChangeShapes Go.WideShapes Go.ChangeAt Go.RowKit
set_option linter.unusedVariables false
set_option linter.unusedSimpArgs false

set_option maxRecDepth 100000 in
set_option maxHeartbeats 8000000 in
theorem guess_raw2 (t : Nat) (ht : t ≠ 6) (nr ns : Int) (hnr : nr ≠ 0) (hns : ns ≠ 0) (a : Option Addr) (len cap : Nat) (zs : List Int) (w : World) (hr : Rd w a zs) (hl : zs.length = len) (hc : len ≤ cap ∧ cap ≤ 9223372036854775807) (hb : len ≤ 1000000) (hnil : a = none → cap = 0) :
    Calls Try.prog 53 #[.int .u16 t, .agg #[.int .i64 0, .int .i64 0, .int .i64 0, .int .i64 nr, .int .i64 0], .slice a len cap] w (GQ (pread ⟨0, 0, 0, 0, 0, 0, 0, ns⟩ zs len) len w) := by
  have q6 : ((t : Int) == 6) = false := by simp; omega
  have q6n : ((t : Int) != 6) = true := by simp; omega
  have HN : Hid (GB w.heap.size (w.heap.size + 1) (w.heap.size + 1 + 1 + 1) (w.heap.size + 1 + 1) ⟨0, 0, 0, nr, 0⟩ w ((((w.alloc (.cells #[.int .i64 0, .int .i64 0, .int .i64 0, .int .i64 nr, .int .i64 0] 67)).alloc (.cells #[.slice none 0 0, .slice none 0 0, .slice none 0 0, .slice none 0 0] 29)).alloc (.cells #[.slice none 0 0, .slice none 0 0, .slice none 0 0, .slice none 0 0] 29)).alloc (.cells #[.slice a len cap, .int .i64 0, .bool false] 99)) ∧ GRd (w.heap.size + 1 + 1 + 1) (w.heap.size + 1 + 1) a len cap zs (some 0) nilDA ((((w.alloc (.cells #[.int .i64 0, .int .i64 0, .int .i64 0, .int .i64 nr, .int .i64 0] 67)).alloc (.cells #[.slice none 0 0, .slice none 0 0, .slice none 0 0, .slice none 0 0] 29)).alloc (.cells #[.slice none 0 0, .slice none 0 0, .slice none 0 0, .slice none 0 0] 29)).alloc (.cells #[.slice a len cap, .int .i64 0, .bool false] 99)) ((((w.alloc (.cells #[.int .i64 0, .int .i64 0, .int .i64 0, .int .i64 nr, .int .i64 0] 67)).alloc (.cells #[.slice none 0 0, .slice none 0 0, .slice none 0 0, .slice none 0 0] 29)).alloc (.cells #[.slice none 0 0, .slice none 0 0, .slice none 0 0, .slice none 0 0] 29)).alloc (.cells #[.slice a len cap, .int .i64 0, .bool false] 99))) := guess_new ⟨0, 0, 0, nr, 0⟩ a len cap zs w hr hl hc (by omega) hnil
  have HL : Hid (zs.length = len) := hl
  have HBY : Hid (∀ z ∈ zs, 0 ≤ z ∧ z ≤ 255) := hr.2
  have HPR : Hid (pread ⟨0, 0, 0, 0, 0, 0, 0, ns⟩ zs len = (⟨[], [], [], zs⟩, some len)) := pread_raw ns hns zs len hl
  generalize pread ⟨0, 0, 0, 0, 0, 0, 0, ns⟩ zs len = PR at *
  have HTK := tk_all zs len hl
  have HTA : Hid (tk zs (some 0) (len : Int) = zs ∧ mv len (some 0) (len : Int) = some len) := HTK
  clear HTK hns
  have qr : (nr != 0) = true := by simp; exact hnr
  clear hnr
  clear hr hl hc hnil ht
  go_enter Try.func53, Try.ntmps53
  go_upto_region 3 with fail
  generalize ((((w.alloc (.cells #[.int .i64 0, .int .i64 0, .int .i64 0, .int .i64 nr, .int .i64 0] 67)).alloc (.cells #[.slice none 0 0, .slice none 0 0, .slice none 0 0, .slice none 0 0] 29)).alloc (.cells #[.slice none 0 0, .slice none 0 0, .slice none 0 0, .slice none 0 0] 29)).alloc (.cells #[.slice a len cap, .int .i64 0, .bool false] 99)) = Wb at *
  obtain ⟨g, hg⟩ : ∃ g, w.heap.size + 1 + 1 + 1 = g := ⟨_, rfl⟩
  obtain ⟨D, hD⟩ : ∃ D, w.heap.size + 1 + 1 = D := ⟨_, rfl⟩
  obtain ⟨R, hR⟩ : ∃ R, w.heap.size + 1 = R := ⟨_, rfl⟩
  obtain ⟨S, hS⟩ : ∃ S, w.heap.size = S := ⟨_, rfl⟩
  rw [hg, hD, hR] at HN
  rw [hg, hD, hR]
  have HS : Hid (w.heap.size = S) := hS
  rw [hS] at HN ⊢
  clear hg hD hR hS
  have HF : Hid (∀ V, Kp g D Wb V → V.cell? ⟨S, 0, none⟩ = some (.int .i64 0) ∧ V.cell? ⟨S, 1, none⟩ = some (.int .i64 0) ∧ V.cell? ⟨S, 2, none⟩ = some (.int .i64 0) ∧ V.cell? ⟨S, 3, none⟩ = some (.int .i64 nr) ∧ V.cell? ⟨S, 4, none⟩ = some (.int .i64 0) ∧ S < V.heap.size) := fun V hV => HN.out.1.sbox hV
  have HLT : Hid (g < Wb.heap.size ∧ D < Wb.heap.size) := HN.out.2.lt
  have hSD : ¬ S = D := HN.out.1.ne.2.1
  have hSg : ¬ S = g := HN.out.1.ne.1
  have hgD : ¬ g = D := HN.out.2.ne
  have hRg : ¬ R = g := HN.out.1.ne.2.2.1
  have hRD : ¬ R = D := HN.out.1.ne.2.2.2.1
  have hDg : ¬ D = g := by omega
  have hDR : ¬ D = R := by omega
  have hgR : ¬ g = R := by omega
  have hSR : ¬ S = R := HN.out.1.ne.2.2.2.2
  have hRS : ¬ R = S := by omega
  have HG0 : Hid (GS g D a len cap zs Wb Wb (some 0) nilDA nilD) := GS.new HN.out.2
  have t0 := (HF.out Wb (Kp.refl _ _ _)).1
  have t1 := (HF.out Wb (Kp.refl _ _ _)).2.1
  have t2 := (HF.out Wb (Kp.refl _ _ _)).2.2.1
  have t3 := (HF.out Wb (Kp.refl _ _ _)).2.2.2.1
  have t4 := (HF.out Wb (Kp.refl _ _ _)).2.2.2.2.1
  have tS := (HF.out Wb (Kp.refl _ _ _)).2.2.2.2.2
  have m1 : Wb.cell? ⟨g, 1, none⟩ = some (.int .i64 0) := HN.out.2.m.1.c1
  have hgl := HN.out.2.m.1.lt
  go_wp2_with fail
  go_loopw [11] (fun i wr => wr = Wb ∧ i = .int .i64 0) (fun _ _ => 0)
  case atStart => exact ⟨rfl, rfl⟩
  case round =>
    obtain ⟨hwr, rfl⟩ := hrel
    subst hwr
    go_wp2_with fail
    obtain ⟨wz, hz⟩ : ∃ z, z = wr := ⟨_, rfl⟩
    subst hz
    go_loopw [] (fun wr => wr = wz) (fun _ => 0)
    case atStart => rfl
    case round =>
      have hwr := hrel
      subst hwr
      have hwl : IntKind.i64.wrap (len : Int) = (len : Int) := by rw [IntKind.wrap_i64]; omega
      have KT : Hid (Calls Try.prog 79 #[.pointer (some ⟨g, 0, none⟩), .int .i64 (len : Int)] wr fun e w' => ∃ s : Sl, e = .returned (.slice s.a s.n s.c) ∧ Hid (BOwn wr.heap.size w' s zs ∧ GRd g D a len cap zs (some len) nilDA wr w')) := by
        refine Calls.mono (reftake_any g a len cap zs (some 0) (len : Int) wr HN.out.2.m HN.out.2.rd HL.out HN.out.2.c.1 (by omega) HN.out.2.nil trivial) ?_
        rintro e w' ⟨v, ys, rfl, H⟩
        obtain ⟨q1, q2, q3, q4⟩ := H.out
        rw [HTA.out.1] at q1 q2
        rw [HTA.out.2] at q3
        obtain ⟨ao, rfl, _⟩ := q1.addr
        exact ⟨⟨ao, _, _⟩, rfl, ⟨ys, q1, q2⟩, HN.out.2.mv q4 q3⟩
      go_wp2_with fail
      refine KT.out.mono ?_
      rintro e W5 ⟨s4, rfl, H5⟩
      have d3 : W5.cell? ⟨D, 3, none⟩ = some (.slice none 0 0) := H5.out.2.d.box.2.2.2.1
      have dz := H5.out.2.d.fz 3
      have hDl := H5.out.2.d.lt
      clear t0 t1 t2 t3 t4 tS m1
      go_upto_region 22 with fail
      have HGC : Hid (GS g D a len cap zs wr (W5.setCell ⟨D, 3, none⟩ (.slice s4.a s4.n s4.c)) (some len) ⟨⟨none, 0, 0⟩, ⟨none, 0, 0⟩, ⟨none, 0, 0⟩, s4⟩ ⟨[], [], [], zs⟩) := by
        have h1 := H5.out.2.set 3 (.slice s4.a s4.n s4.c) (H5.out.2.d.set3 s4)
        have h2 : BOwn wr.heap.size (W5.setCell ⟨D, 3, none⟩ (.slice s4.a s4.n s4.c)) s4 zs := H5.out.1.keep (fun j hj _ => Below.heap_setCell _ _ _ j (by have := HLT.out; show j ≠ D; omega))
        exact ⟨h1.rebase, ⟨OwnN.nil _ _, nil_uown _ _, nil_own1 _ _, h2⟩, h1.k⟩
      generalize (W5.setCell ⟨D, 3, none⟩ (.slice s4.a s4.n s4.c)) = W9 at *
      clear H5 KT d3 dz hDl
      have d0 : W9.cell? ⟨D, 0, none⟩ = some (.slice none 0 0) := HGC.out.rd.d.box.1
      have d1 : W9.cell? ⟨D, 1, none⟩ = some (.slice none 0 0) := HGC.out.rd.d.box.2.1
      have d2 : W9.cell? ⟨D, 2, none⟩ = some (.slice none 0 0) := HGC.out.rd.d.box.2.2.1
      have d3 : W9.cell? ⟨D, 3, none⟩ = some (.slice s4.a s4.n s4.c) := HGC.out.rd.d.box.2.2.2.1
      have dl := HGC.out.rd.d.lt
      have eb : W9.cell? ⟨g, 2, none⟩ = some (.bool false) := HGC.out.rd.m.1.c2
      have r0 : W9.cell? ⟨R, 0, none⟩ = some (.slice none 0 0) := (HN.out.1.rblk HGC.out.kp).box.1
      have r1 : W9.cell? ⟨R, 1, none⟩ = some (.slice none 0 0) := (HN.out.1.rblk HGC.out.kp).box.2.1
      have r2 : W9.cell? ⟨R, 2, none⟩ = some (.slice none 0 0) := (HN.out.1.rblk HGC.out.kp).box.2.2.1
      have r3 : W9.cell? ⟨R, 3, none⟩ = some (.slice none 0 0) := (HN.out.1.rblk HGC.out.kp).box.2.2.2.1
      have rz0 := (HN.out.1.rblk HGC.out.kp).fz 0
      have rz1 := (HN.out.1.rblk HGC.out.kp).fz 1
      have rz2 := (HN.out.1.rblk HGC.out.kp).fz 2
      have rz3 := (HN.out.1.rblk HGC.out.kp).fz 3
      have rl := (HN.out.1.rblk HGC.out.kp).lt
      go_upto_region 22 with fail
      go_region_held3 (fun V => V.cell? ⟨D, 0, none⟩ = some (.slice none 0 0) ∧ V.cell? ⟨D, 1, none⟩ = some (.slice none 0 0) ∧ V.cell? ⟨D, 2, none⟩ = some (.slice none 0 0) ∧ V.cell? ⟨D, 3, none⟩ = some (.slice s4.a s4.n s4.c) ∧ V.cell? ⟨g, 2, none⟩ = some (.bool false)) (exact ⟨by go_keep, by go_keep, by go_keep, by go_keep, by go_keep⟩) (fail)
      all_goals
        go_wp2_with fail
        have H8 : Hid (DBlk (((((W9.setCell ⟨R, 0, none⟩ (.slice none 0 0)).setCell ⟨R, 1, none⟩ (.slice none 0 0)).setCell ⟨R, 2, none⟩ (.slice none 0 0)).setCell ⟨R, 3, none⟩ (.slice s4.a s4.n s4.c)).drew) R ⟨⟨none, 0, 0⟩, ⟨none, 0, 0⟩, ⟨none, 0, 0⟩, s4⟩ ∧ Below w.heap.size w (((((W9.setCell ⟨R, 0, none⟩ (.slice none 0 0)).setCell ⟨R, 1, none⟩ (.slice none 0 0)).setCell ⟨R, 2, none⟩ (.slice none 0 0)).setCell ⟨R, 3, none⟩ (.slice s4.a s4.n s4.c)).drew) ∧ DOwn w.heap.size (((((W9.setCell ⟨R, 0, none⟩ (.slice none 0 0)).setCell ⟨R, 1, none⟩ (.slice none 0 0)).setCell ⟨R, 2, none⟩ (.slice none 0 0)).setCell ⟨R, 3, none⟩ (.slice s4.a s4.n s4.c)).drew) ⟨⟨none, 0, 0⟩, ⟨none, 0, 0⟩, ⟨none, 0, 0⟩, s4⟩ ⟨[], [], [], zs⟩) := ⟨(GB.final (x := ⟨⟨none, 0, 0⟩, ⟨none, 0, 0⟩, ⟨none, 0, 0⟩, s4⟩) (d := ⟨[], [], [], zs⟩) HN.out.1 HGC.out.kp HGC.out.own).1, (GB.final (x := ⟨⟨none, 0, 0⟩, ⟨none, 0, 0⟩, ⟨none, 0, 0⟩, s4⟩) (d := ⟨[], [], [], zs⟩) HN.out.1 HGC.out.kp HGC.out.own).2.1, GB.owned (x := ⟨⟨none, 0, 0⟩, ⟨none, 0, 0⟩, ⟨none, 0, 0⟩, s4⟩) (d := ⟨[], [], [], zs⟩) HN.out.1 HGC.out.own⟩
        generalize (((((W9.setCell ⟨R, 0, none⟩ (.slice none 0 0)).setCell ⟨R, 1, none⟩ (.slice none 0 0)).setCell ⟨R, 2, none⟩ (.slice none 0 0)).setCell ⟨R, 3, none⟩ (.slice s4.a s4.n s4.c)).drew) = W88 at *
        have k0 := H8.out.1.box.1
        have k1 := H8.out.1.box.2.1
        have k2 := H8.out.1.box.2.2.1
        have k3 := H8.out.1.box.2.2.2.1
        simp only at k0 k1 k2 k3
        refine bodyPost_ret (v := .tuple #[.agg #[.slice none 0 0, .slice none 0 0, .slice none 0 0, .slice s4.a s4.n s4.c], .bool true]) (by simp [results, Try.results53, go_sem, k0, k1, k2, k3]) rfl ?_
        exact .inr ⟨⟨⟨none, 0, 0⟩, ⟨none, 0, 0⟩, ⟨none, 0, 0⟩, s4⟩, ⟨[], [], [], zs⟩, rfl, H8.out.2.2, ⟨by simp, by simp, by simp, by simp [tsum], by have := HL.out; simp only; omega⟩, H8.out.2.1, fun _ => by rw [HPR.out], by simp⟩
end Go.Proofs.Ytdeoembjfdbbkaa
/- The document's own Read. -/
namespace Go.Proofs.Ytdeoembjfdbbkaa
open Go.ChangeShapes Go.WideShapes Go.ChangeAt Go.RowKit
set_option linter.unusedVariables false
set_option linter.unusedSimpArgs false

theorem guess_any (t : Nat) (a : Option Addr) (len cap : Nat) (zs : List Int) (w : World) (hr : Rd w a zs) (hl : zs.length = len) (hc : len ≤ cap ∧ cap ≤ 9223372036854775807) (hb : len ≤ 100000) (hnil : a = none → cap = 0) :
    Calls Try.prog 53 #[.int .u16 t, .agg #[.int .i64 (shp t).nn, .int .i64 (shp t).nu, .int .i64 (shp t).nt, .int .i64 (shp t).nr, .int .i64 (shp t).wd], .slice a len cap] w (GQ (pread (fs t) zs len) len w) := by
  have raw : ∀ nr nr' : Int, t ≠ 6 → nr ≠ 0 → nr' ≠ 0 → Calls Try.prog 53 #[.int .u16 t, .agg #[.int .i64 0, .int .i64 0, .int .i64 0, .int .i64 nr, .int .i64 0], .slice a len cap] w (GQ (pread ⟨0, 0, 0, 0, 0, 0, 0, nr'⟩ zs len) len w) := by
    intro nr nr' h6 h1 h2
    exact guess_raw2 t h6 nr nr' h1 h2 a len cap zs w hr hl hc (by omega) hnil
  rcases shp_cases t with ⟨ht, e⟩ | ⟨ht, e⟩ | ⟨ht, e⟩ | ⟨ht, e⟩ | ⟨ht, e⟩ | ⟨ht, e⟩ | ⟨ht, e⟩ | ⟨ht, e⟩ | ⟨ht, e⟩
  · have ef : fs t = ⟨0, 0, 0, 0, 0, 0, 0, 4⟩ := by subst ht; rfl
    rw [e, ef]; exact raw 4 4 (by omega) (by decide) (by decide)
  · have ef : fs t = ⟨0, 0, 0, 0, 0, 0, 0, 16⟩ := by subst ht; rfl
    rw [e, ef]; exact raw 16 16 (by omega) (by decide) (by decide)
  · have ef : fs t = ⟨1, 0, 0, 0, 0, 0, 0, 0⟩ := by rcases ht with rfl | rfl | rfl <;> rfl
    rw [e, ef]; exact guess_nm t (by omega) 0 0 (by omega) (by omega) a len cap zs w hr hl hc (by omega) hnil
  · have ef : fs t = ⟨2, 2, 5, 4, 0, 0, 0, 0⟩ := by subst ht; rfl
    rw [e, ef, ht]; exact guess_soa a len cap zs w hr hl hc (by omega) hnil
  · have ef : fs t = ⟨1, 0, 1, 2, 0, 0, 0, 0⟩ := by subst ht; rfl
    rw [e, ef]; exact guess_nm t (by omega) 1 2 (by omega) (by omega) a len cap zs w hr hl hc (by omega) hnil
  · have ef : fs t = ⟨1, 0, 3, 2, 0, 0, 0, 0⟩ := by subst ht; rfl
    rw [e, ef]; exact guess_nm t (by omega) 3 2 (by omega) (by omega) a len cap zs w hr hl hc (by omega) hnil
  · have ef : fs t = ⟨0, 0, 0, 0, -1, 0, 0, 0⟩ := by subst ht; rfl
    rw [e, ef]; exact guess_txt t (by omega) a len cap zs w hr hl hc hb hnil
  · have ef : fs t = ⟨0, 0, 1, 1, 2, 1, 1, 0⟩ := by subst ht; rfl
    rw [e, ef]; exact guess_caa t (by omega) a len cap zs w hr hl hc (by omega) hnil
  · have ef : fs t = ⟨0, 0, 0, 0, 0, 0, 0, -2⟩ := by
      obtain ⟨h1, h2, h3, h4, h5, h6, h7, h8, h9, h10⟩ := ht
      unfold fs; simp [h1, h2, h3, h4, h5, h6, h7, h8, h9, h10]
    rw [e, ef]; exact raw (-1) (-2) (by omega) (by decide) (by decide)
theorem flat_tz (l : List ByteArray) : (l.flatMap nums).length ≤ (l.map tz).sum := by
  induction l with
  | nil => simp
  | cons a l ih =>
    simp only [List.flatMap_cons, List.length_append, List.map_cons, List.sum_cons, nums_len, tz]
    omega
theorem tsz_tsum (t : Nat) (l : List ByteArray) : tsz t l ≤ (l.map tz).sum := by
  unfold tsz
  split
  · rw [tsum_nby]; exact Nat.le_refl _
  · cases l with
    | nil => simp
    | cons a l =>
      have := flat_tz l
      simp only [List.map_cons, List.sum_cons, tz] at this ⊢
      omega
theorem sizes_bd {t : Nat} {d : Dat} (h : Bd d) (hn : ∀ n ∈ d.ns, nck n = 0) : sizesF t d ≤ 1000000000000000 := by
  have h1 := h.r
  have h2 := h.t
  have h3 := tsz_tsum t d.ts
  have h4 := sum_le (d.ns.map nsz) 255 (by
    intro x hx
    obtain ⟨n, hn1, rfl⟩ := List.mem_map.1 hx
    exact (nck_small (hn n hn1)).1)
  have h5 : (d.ns.map nsz).length * 255 ≤ 1000 * 255 := Nat.mul_le_mul_right _ (by rw [List.length_map]; exact h.n)
  have h6 : (shp t).wd ≤ 4 := by
    rcases shp_cases t with ⟨_, e⟩ | ⟨_, e⟩ | ⟨_, e⟩ | ⟨_, e⟩ | ⟨_, e⟩ | ⟨_, e⟩ | ⟨_, e⟩ | ⟨_, e⟩ | ⟨_, e⟩ <;> rw [e] <;> simp
  have h7 : d.us.length * (shp t).wd ≤ 1000 * 4 := Nat.mul_le_mul h.u h6
  unfold tsum at h2
  unfold sizesF
  omega
/-- What is read of bytes, told by the document. -/
def RdR (r : Dat × Int) (w : World) (e : Ending) (w' : World) : Prop := ∃ x : DA, e = .returned (.tuple #[.agg #[.slice x.p1.a x.p1.n x.p1.c, .slice x.p2.a x.p2.n x.p2.c, .slice x.p3.a x.p3.n x.p3.c, .slice x.p4.a x.p4.n x.p4.c], .int .i64 r.2]) ∧ Hid (DOwn w.heap.size w' x r.1 ∧ Below w.heap.size w w')
theorem dread_long {t : Nat} {zs : List Int} (h : ¬ zs.length ≤ 65535) : dreadF t zs = none := by
  cases hd : dreadF t zs with
  | none => rfl
  | some d =>
    obtain ⟨h1, h2⟩ := write_read hd
    have := wlen h1
    rw [h2] at this
    exact absurd this h
theorem nil_drd2 (W : World) : DRd W nilDA nilD := ⟨nil_nrd W, nil_urd W, nil_trd W, nil_brd W⟩
theorem readF_doc {t : Nat} {zs : List Int} (hm : mayT t = true) : readF t zs = match dreadF t zs with | some d => (d, 0) | none => (nilD, 8) := by
  unfold readF
  rw [if_pos hm]
  by_cases h : zs.length ≤ 65535
  · rw [if_pos h]; rfl
  · rw [if_neg h, dread_long h]
/-- Where a guess came to nothing, there is nothing to read. -/
theorem read_bad {t : Nat} {zs : List Int} (hm : mayT t = true) (h : (pread (fs t) zs zs.length).2 ≠ some zs.length) : readF t zs = (nilD, 8) := by
  rw [readF_doc hm]
  cases hd : dreadF t zs with
  | none => rfl
  | some d =>
    obtain ⟨h1, h2⟩ := write_read hd
    rw [pread_at t d zs h1 h2] at h
    exact absurd rfl h
theorem read_not {t : Nat} {zs : List Int} {d : Dat} (hm : mayT t = true) (hd : (pread (fs t) zs zs.length).2 = some zs.length → d = (pread (fs t) zs zs.length).1) (h : ¬ (checkF t d = 0 ∧ writeF t d = zs)) : readF t zs = (nilD, 8) := by
  rw [readF_doc hm]
  cases hr : dreadF t zs with
  | none => rfl
  | some d' =>
    obtain ⟨h1, h2⟩ := write_read hr
    have hp := pread_at t d' zs h1 h2
    rw [hp] at hd
    have := hd rfl
    simp only at this
    rw [this] at h
    exact absurd ⟨h1, h2⟩ h
theorem read_is {t : Nat} {zs : List Int} {d : Dat} (h1 : checkF t d = 0) (h2 : writeF t d = zs) : readF t zs = (d, 0) := readF_write t d zs h1 h2 (by rw [← h2]; exact wlen h1)
theorem str_ne {zs ys : List Int} (hz : ∀ z ∈ zs, 0 ≤ z ∧ z ≤ 255) (hy : ∀ z ∈ ys, 0 ≤ z ∧ z ≤ 255) : (⟨(txt zs).toArray⟩ : ByteArray) = ⟨(txt ys).toArray⟩ ↔ zs = ys := by
  constructor
  · intro h
    have h1 := nums_back zs hz
    have h2 := nums_back ys hy
    rw [← h1, ← h2, h]
  · rintro rfl; rfl
set_option maxRecDepth 100000 in
set_option maxHeartbeats 8000000 in
theorem refread5 (t : Nat) (a : Option Addr) (len cap : Nat) (zs : List Int) (w : World) (hr : Rd w a zs) (hl : zs.length = len) (hc : len ≤ cap ∧ cap ≤ 9223372036854775807) (hb : len ≤ 100000) (hnil : a = none → cap = 0) :
    Calls Try.prog 28 #[.int .u16 t, .slice a len cap] w (RdR (readF t zs) w) := by
  have KO : Hid (∀ W, Calls Try.prog 48 #[.int .u16 t] W fun e w' => e = .returned (.tuple #[.agg #[.int .i64 (shp t).nn, .int .i64 (shp t).nu, .int .i64 (shp t).nt, .int .i64 (shp t).nr, .int .i64 (shp t).wd], .bool (mayT t)]) ∧ Hid (Below W.heap.size W w')) := fun W => of_any t W
  have KG : Hid (∀ W, Rd W a zs → Calls Try.prog 53 #[.int .u16 t, .agg #[.int .i64 (shp t).nn, .int .i64 (shp t).nu, .int .i64 (shp t).nt, .int .i64 (shp t).nr, .int .i64 (shp t).wd], .slice a len cap] W (GQ (pread (fs t) zs len) len W)) := fun W hW => guess_any t a len cap zs W hW hl hc hb hnil
  have KB : Hid (∀ W x d, DRd W x d → Bd d → (∀ n ∈ d.ns, nck n = 0) → Calls Try.prog 11 #[.int .u16 t, .agg #[.slice x.p1.a x.p1.n x.p1.c, .slice x.p2.a x.p2.n x.p2.c, .slice x.p3.a x.p3.n x.p3.c, .slice x.p4.a x.p4.n x.p4.c]] W fun e w' => ∃ s : Sl, e = .returned (.tuple #[.slice s.a s.n s.c, .int .i64 (checkF t d)]) ∧ Hid ((checkF t d = 0 → BRd w' s (writeF t d)) ∧ Below W.heap.size W w')) := by
    intro W x d h1 h2 h3
    refine Calls.mono (rbytes_any t x d W h1 (sizes_bd h2 h3)) ?_
    rintro e w' ⟨v, ys, rfl, H⟩
    obtain ⟨q1, q2, q3⟩ := H.out
    by_cases hk : checkF t d = 0
    · have eb : bytesF t d = (writeF t d, 0) := by unfold bytesF; rw [if_pos hk]
      rw [eb] at q1 q2 ⊢
      obtain ⟨ao, rfl, _⟩ := q1.addr
      exact ⟨⟨ao, _, _⟩, by rw [hk], fun _ => (show BOwn W.heap.size w' ⟨ao, (writeF t d).length, ys.length⟩ (writeF t d) from ⟨ys, q1, q2⟩).rd, q3⟩
    · have eb : bytesF t d = ([], checkF t d) := by unfold bytesF; rw [if_neg hk]
      rw [eb] at q1 q2 ⊢
      obtain ⟨ao, rfl, _⟩ := q1.addr
      exact ⟨⟨ao, _, _⟩, rfl, fun h => absurd h hk, q3⟩
  have HN6 : Hid (mayT t = false → readF t zs = (nilD, 6)) := by
    intro h
    unfold readF
    rw [if_neg (by simp [h])]
  have HNB : Hid (mayT t = true → (pread (fs t) zs len).2 ≠ some len → readF t zs = (nilD, 8)) := fun hm h => read_bad hm (by rw [hl]; exact h)
  have HNN : Hid (∀ d, mayT t = true → ((pread (fs t) zs len).2 = some len → d = (pread (fs t) zs len).1) → ¬ (checkF t d = 0 ∧ writeF t d = zs) → readF t zs = (nilD, 8)) := fun d hm h1 h2 => read_not hm (by rw [hl]; exact h1) h2
  have HYY : Hid (∀ d, checkF t d = 0 → writeF t d = zs → readF t zs = (d, 0)) := fun d h1 h2 => read_is h1 h2
  have HBY : Hid (∀ z ∈ zs, 0 ≤ z ∧ z ≤ 255) := hr.2
  have HL : Hid (zs.length = len) := hl
  have hb1 := new_below w (.cells #[.slice none 0 0, .slice none 0 0, .slice none 0 0, .slice none 0 0] 29)
  have HS1 : Hid (DBlk (w.alloc (.cells #[.slice none 0 0, .slice none 0 0, .slice none 0 0, .slice none 0 0] 29)) w.heap.size nilDA ∧ Below w.heap.size w (w.alloc (.cells #[.slice none 0 0, .slice none 0 0, .slice none 0 0, .slice none 0 0] 29)) ∧ Rd (w.alloc (.cells #[.slice none 0 0, .slice none 0 0, .slice none 0 0, .slice none 0 0] 29)) a zs) := ⟨dblk_new w, hb1, hr.below hb1⟩
  clear hr hl hb hnil hb1 hc
  generalize readF t zs = RF at *
  generalize pread (fs t) zs len = PR at *
  generalize mayT t = M at *
  generalize shp t = s at *
  obtain ⟨nn, nu, nt, nr, wd⟩ := s
  simp only at KO KG
  go_enter Try.func28, Try.ntmps28
  go_upto_region 1 with fail
  generalize (w.alloc (.cells #[.slice none 0 0, .slice none 0 0, .slice none 0 0, .slice none 0 0] 29)) = W1 at *
  obtain ⟨b, hb⟩ : ∃ b, b = w.heap.size := ⟨_, rfl⟩
  rw [← hb] at HS1 ⊢
  have Hb : Hid (b = w.heap.size) := hb
  clear hb
  go_wp2_with fail
  refine (KO.out _).mono ?_
  rintro e W2 ⟨rfl, H2⟩
  have hn2 := new_below W2 (.cells #[.int .i64 nn, .int .i64 nu, .int .i64 nt, .int .i64 nr, .int .i64 wd] 67)
  have HS2 : Hid (DBlk (W2.alloc (.cells #[.int .i64 nn, .int .i64 nu, .int .i64 nt, .int .i64 nr, .int .i64 wd] 67)) b nilDA ∧ Below w.heap.size w (W2.alloc (.cells #[.int .i64 nn, .int .i64 nu, .int .i64 nt, .int .i64 nr, .int .i64 wd] 67)) ∧ Rd (W2.alloc (.cells #[.int .i64 nn, .int .i64 nu, .int .i64 nt, .int .i64 nr, .int .i64 wd] 67)) a zs ∧ SBox (W2.alloc (.cells #[.int .i64 nn, .int .i64 nu, .int .i64 nt, .int .i64 nr, .int .i64 wd] 67)) W2.heap.size ⟨nn, nu, nt, nr, wd⟩) := by
    obtain ⟨p1, p2, p3⟩ := HS1.out
    rw [Hb.out] at p2
    refine ⟨(p1.same (H2.out.block b p1.lt)).same (hn2.block b (Nat.lt_of_lt_of_le p1.lt H2.out.size)), ?_, (p3.below H2.out).below hn2, SBox.new W2 ⟨nn, nu, nt, nr, wd⟩⟩
    have p4 := HS1.out.2.1
    rw [Hb.out] at p4
    exact (p4.trans (H2.out.mono p4.size)).trans (hn2.mono (Nat.le_trans p4.size H2.out.size))
  clear HS1 H2 KO hn2
  go_upto_region 2 with fail
  generalize W2.alloc (.cells #[.int .i64 nn, .int .i64 nu, .int .i64 nt, .int .i64 nr, .int .i64 wd] 67) = W3 at *
  generalize W2.heap.size = S at *
  have HRET : Hid (∀ W, DBlk W b nilDA → Below w.heap.size w W → ∀ z : DA, DBlk (set4 W b z) b z ∧ Below w.heap.size w (set4 W b z)) := fun W h1 h2 z => ret4 h1 h2 (by have := Hb.out; omega) z
  cases M with
  | false =>
    have HE : Hid (RF = (nilD, 6)) := HN6.out rfl
    have HB3 : Hid (DBlk W3 b nilDA) := HS2.out.1
    have HW3 : Hid (Below w.heap.size w W3) := HS2.out.2.1
    clear HN6 HNB HNN HYY KG KB HS2
    have r0 : W3.cell? ⟨b, 0, none⟩ = some (.slice none 0 0) := HB3.out.box.1
    have r1 : W3.cell? ⟨b, 1, none⟩ = some (.slice none 0 0) := HB3.out.box.2.1
    have r2 : W3.cell? ⟨b, 2, none⟩ = some (.slice none 0 0) := HB3.out.box.2.2.1
    have r3 : W3.cell? ⟨b, 3, none⟩ = some (.slice none 0 0) := HB3.out.box.2.2.2.1
    have rz0 := HB3.out.fz 0
    have rz1 := HB3.out.fz 1
    have rz2 := HB3.out.fz 2
    have rz3 := HB3.out.fz 3
    have rl := HB3.out.lt
    go_wp2_with fail
    obtain ⟨X1, X2⟩ := HRET.out W3 HB3.out HW3.out nilDA
    have k0 := X1.box.1
    have k1 := X1.box.2.1
    have k2 := X1.box.2.2.1
    have k3 := X1.box.2.2.2.1
    simp only [set4] at k0 k1 k2 k3
    refine bodyPost_ret (v := .tuple #[.agg #[.slice none 0 0, .slice none 0 0, .slice none 0 0, .slice none 0 0], .int .i64 6]) ?_ rfl (by rw [HE.out]; exact ⟨nilDA, rfl, nil_down _ _, X2⟩)
    simp [results, Try.results28, go_sem, k0, k1, k2, k3]
  | true =>
    have HNB2 : Hid (PR.2 ≠ some len → RF = (nilD, 8)) := HNB.out rfl
    have HNN2 : Hid (∀ d, (PR.2 = some len → d = PR.1) → ¬ (checkF t d = 0 ∧ writeF t d = zs) → RF = (nilD, 8)) := fun d => HNN.out d rfl
    clear HN6 HNB HNN
    have s0 := HS2.out.2.2.2.1
    have s1 := HS2.out.2.2.2.2.1
    have s2 := HS2.out.2.2.2.2.2.1
    have s3 := HS2.out.2.2.2.2.2.2.1
    have s4 := HS2.out.2.2.2.2.2.2.2.1
    have sl := HS2.out.2.2.2.2.2.2.2.2
    simp only at s0 s1 s2 s3 s4
    go_wp2_with fail
    refine (KG.out _ HS2.out.2.2.1).mono ?_
    rintro e W4 (⟨x, rfl, H4⟩ | ⟨x, d, rfl, H4⟩)
    · have HE : Hid (RF = (nilD, 8)) := HNB2.out H4.out.2
      clear HNB2 HNN2 HYY KG KB s0 s1 s2 s3 s4
      have hn4 := new_below W4 (.cells #[.slice x.p1.a x.p1.n x.p1.c, .slice x.p2.a x.p2.n x.p2.c, .slice x.p3.a x.p3.n x.p3.c, .slice x.p4.a x.p4.n x.p4.c] 29)
      have HB5 : Hid (DBlk (W4.alloc (.cells #[.slice x.p1.a x.p1.n x.p1.c, .slice x.p2.a x.p2.n x.p2.c, .slice x.p3.a x.p3.n x.p3.c, .slice x.p4.a x.p4.n x.p4.c] 29)) b nilDA) := (HS2.out.1.same (H4.out.1.block b HS2.out.1.lt)).same (hn4.block b (Nat.lt_of_lt_of_le HS2.out.1.lt H4.out.1.size))
      have HW5 : Hid (Below w.heap.size w (W4.alloc (.cells #[.slice x.p1.a x.p1.n x.p1.c, .slice x.p2.a x.p2.n x.p2.c, .slice x.p3.a x.p3.n x.p3.c, .slice x.p4.a x.p4.n x.p4.c] 29))) := (HS2.out.2.1.trans (H4.out.1.mono HS2.out.2.1.size)).trans (hn4.mono (Nat.le_trans HS2.out.2.1.size H4.out.1.size))
      clear hn4 H4 HS2
      go_upto_region 5 with fail
      generalize W4.alloc (.cells #[.slice x.p1.a x.p1.n x.p1.c, .slice x.p2.a x.p2.n x.p2.c, .slice x.p3.a x.p3.n x.p3.c, .slice x.p4.a x.p4.n x.p4.c] 29) = W5 at *
      have r0 : W5.cell? ⟨b, 0, none⟩ = some (.slice none 0 0) := HB5.out.box.1
      have r1 : W5.cell? ⟨b, 1, none⟩ = some (.slice none 0 0) := HB5.out.box.2.1
      have r2 : W5.cell? ⟨b, 2, none⟩ = some (.slice none 0 0) := HB5.out.box.2.2.1
      have r3 : W5.cell? ⟨b, 3, none⟩ = some (.slice none 0 0) := HB5.out.box.2.2.2.1
      have rz0 := HB5.out.fz 0
      have rz1 := HB5.out.fz 1
      have rz2 := HB5.out.fz 2
      have rz3 := HB5.out.fz 3
      have rl := HB5.out.lt
      go_wp2_with fail
      obtain ⟨X1, X2⟩ := HRET.out W5 HB5.out HW5.out nilDA
      have k0 := X1.box.1
      have k1 := X1.box.2.1
      have k2 := X1.box.2.2.1
      have k3 := X1.box.2.2.2.1
      simp only [set4] at k0 k1 k2 k3
      refine bodyPost_ret (v := .tuple #[.agg #[.slice none 0 0, .slice none 0 0, .slice none 0 0, .slice none 0 0], .int .i64 8]) ?_ rfl (by rw [HE.out]; exact ⟨nilDA, rfl, nil_down _ _, X2⟩)
      simp [results, Try.results28, go_sem, k0, k1, k2, k3]
    · have hn4 := new_below W4 (.cells #[.slice x.p1.a x.p1.n x.p1.c, .slice x.p2.a x.p2.n x.p2.c, .slice x.p3.a x.p3.n x.p3.c, .slice x.p4.a x.p4.n x.p4.c] 29)
      have HS4 : Hid (DBlk (W4.alloc (.cells #[.slice x.p1.a x.p1.n x.p1.c, .slice x.p2.a x.p2.n x.p2.c, .slice x.p3.a x.p3.n x.p3.c, .slice x.p4.a x.p4.n x.p4.c] 29)) b nilDA ∧ Below w.heap.size w (W4.alloc (.cells #[.slice x.p1.a x.p1.n x.p1.c, .slice x.p2.a x.p2.n x.p2.c, .slice x.p3.a x.p3.n x.p3.c, .slice x.p4.a x.p4.n x.p4.c] 29)) ∧ Rd (W4.alloc (.cells #[.slice x.p1.a x.p1.n x.p1.c, .slice x.p2.a x.p2.n x.p2.c, .slice x.p3.a x.p3.n x.p3.c, .slice x.p4.a x.p4.n x.p4.c] 29)) a zs ∧ DBlk (W4.alloc (.cells #[.slice x.p1.a x.p1.n x.p1.c, .slice x.p2.a x.p2.n x.p2.c, .slice x.p3.a x.p3.n x.p3.c, .slice x.p4.a x.p4.n x.p4.c] 29)) W4.heap.size x ∧ DOwn W3.heap.size (W4.alloc (.cells #[.slice x.p1.a x.p1.n x.p1.c, .slice x.p2.a x.p2.n x.p2.c, .slice x.p3.a x.p3.n x.p3.c, .slice x.p4.a x.p4.n x.p4.c] 29)) x d ∧ b < W4.heap.size ∧ b < W3.heap.size) := by
        obtain ⟨p1, p2, p3, _⟩ := HS2.out
        obtain ⟨q1, q2, q3, q4, q5⟩ := H4.out
        have hbl := p1.lt
        exact ⟨(p1.same (q3.block b hbl)).same (hn4.block b (Nat.lt_of_lt_of_le hbl q3.size)), (p2.trans (q3.mono p2.size)).trans (hn4.mono (Nat.le_trans p2.size q3.size)), (p3.below q3).below hn4, heap_alloc_new _ _, q1.stays hn4, Nat.lt_of_lt_of_le hbl q3.size, hbl⟩
      have HBD : Hid (Bd d ∧ ∀ n ∈ d.ns, nck n = 0) := ⟨H4.out.2.1, H4.out.2.2.2.2⟩
      have HEQ : Hid (PR.2 = some len → d = PR.1) := H4.out.2.2.2.1
      clear hn4 H4 HS2 KG s0 s1 s2 s3 s4 sl
      go_upto_region 5 with fail
      generalize W4.alloc (.cells #[.slice x.p1.a x.p1.n x.p1.c, .slice x.p2.a x.p2.n x.p2.c, .slice x.p3.a x.p3.n x.p3.c, .slice x.p4.a x.p4.n x.p4.c] 29) = W5 at *
      have hbD : ¬ b = W4.heap.size := by have := HS4.out.2.2.2.2.2.1; omega
      have hDb : ¬ W4.heap.size = b := by omega
      generalize W4.heap.size = D at *
      have d0 : W5.cell? ⟨D, 0, none⟩ = some (.slice x.p1.a x.p1.n x.p1.c) := HS4.out.2.2.2.1.box.1
      have d1 : W5.cell? ⟨D, 1, none⟩ = some (.slice x.p2.a x.p2.n x.p2.c) := HS4.out.2.2.2.1.box.2.1
      have d2 : W5.cell? ⟨D, 2, none⟩ = some (.slice x.p3.a x.p3.n x.p3.c) := HS4.out.2.2.2.1.box.2.2.1
      have d3 : W5.cell? ⟨D, 3, none⟩ = some (.slice x.p4.a x.p4.n x.p4.c) := HS4.out.2.2.2.1.box.2.2.2.1
      have hDl := HS4.out.2.2.2.1.lt
      have KB2 : Hid (Calls Try.prog 11 #[.int .u16 t, .agg #[.slice x.p1.a x.p1.n x.p1.c, .slice x.p2.a x.p2.n x.p2.c, .slice x.p3.a x.p3.n x.p3.c, .slice x.p4.a x.p4.n x.p4.c]] W5 fun e w' => ∃ s : Sl, e = .returned (.tuple #[.slice s.a s.n s.c, .int .i64 (checkF t d)]) ∧ Hid ((checkF t d = 0 → BRd w' s (writeF t d)) ∧ Below W5.heap.size W5 w')) := KB.out W5 x d HS4.out.2.2.2.2.1.rd HBD.out.1 HBD.out.2
      clear KB HBD
      go_wp2_with fail
      refine KB2.out.mono ?_
      rintro e W6 ⟨sw, rfl, H6⟩
      have HS6 : Hid (DBlk W6 b nilDA ∧ Below w.heap.size w W6 ∧ Rd W6 a zs ∧ DBlk W6 D x ∧ DOwn W3.heap.size W6 x d ∧ b < W3.heap.size) := by
        obtain ⟨p1, p2, p3, p4, p5, _, p7⟩ := HS4.out
        have hw := H6.out.2
        exact ⟨p1.same (hw.block b p1.lt), p2.trans (hw.mono p2.size), p3.below hw, p4.same (hw.block D p4.lt), p5.stays hw, p7⟩
      have HWR : Hid (checkF t d = 0 → BRd W6 sw (writeF t d)) := H6.out.1
      have HNO : Hid (¬ (checkF t d = 0 ∧ writeF t d = zs) → RF = (nilD, 8)) := fun h => HNN2.out d HEQ.out h
      have HYS : Hid (checkF t d = 0 → writeF t d = zs → RF = (d, 0)) := HYY.out d
      have HB6 : Hid (DBlk W6 b nilDA) := HS6.out.1
      have HW6 : Hid (Below w.heap.size w W6) := HS6.out.2.1
      clear KB2 H6 HS4 HNN2 HNB2 HYY HEQ d0 d1 d2 d3 hDl
      generalize hck : checkF t d = C at *
      clear hck
      generalize hwf : writeF t d = WD at *
      clear hwf
      by_cases hC : C = 0
      · have hCb : (C != 0) = false := by simp [hC]
        have hsb := HWR.out hC
        have HSB : Hid (BRd W6 sw WD) := hsb
        clear hsb HWR
        have hcv1 : (convert 27 9 (.slice sw.a sw.n sw.c)).run Try.prog W6 = .ok (.string ⟨(txt WD).toArray⟩) W6 := conv_rd sw.a sw.n sw.c WD W6 HSB.out.rd HSB.out.len
        have hcv2 : (convert 27 9 (.slice a len cap)).run Try.prog W6 = .ok (.string ⟨(txt zs).toArray⟩) W6 := conv_rd a len cap zs W6 HS6.out.2.2.1 HL.out
        have HSE := str_ne HSB.out.rd.2 HBY.out
        have HQ : Hid ((⟨(txt WD).toArray⟩ : ByteArray) = ⟨(txt zs).toArray⟩ ↔ WD = zs) := HSE
        clear HSE
        have HC0 : Hid (C = 0) := hC
        clear hC
        generalize htw : (⟨(txt WD).toArray⟩ : ByteArray) = tw at *
        generalize htz : (⟨(txt zs).toArray⟩ : ByteArray) = tz at *
        clear htw htz
        by_cases hq : tw = tz
        · have HE : Hid (RF = (d, 0)) := HYS.out HC0.out (HQ.out.1 hq)
          subst hq
          clear HYS HNO HQ
          have d0 : W6.cell? ⟨D, 0, none⟩ = some (.slice x.p1.a x.p1.n x.p1.c) := HS6.out.2.2.2.1.box.1
          have d1 : W6.cell? ⟨D, 1, none⟩ = some (.slice x.p2.a x.p2.n x.p2.c) := HS6.out.2.2.2.1.box.2.1
          have d2 : W6.cell? ⟨D, 2, none⟩ = some (.slice x.p3.a x.p3.n x.p3.c) := HS6.out.2.2.2.1.box.2.2.1
          have d3 : W6.cell? ⟨D, 3, none⟩ = some (.slice x.p4.a x.p4.n x.p4.c) := HS6.out.2.2.2.1.box.2.2.2.1
          have hDl := HS6.out.2.2.2.1.lt
          have r0 : W6.cell? ⟨b, 0, none⟩ = some (.slice none 0 0) := HB6.out.box.1
          have r1 : W6.cell? ⟨b, 1, none⟩ = some (.slice none 0 0) := HB6.out.box.2.1
          have r2 : W6.cell? ⟨b, 2, none⟩ = some (.slice none 0 0) := HB6.out.box.2.2.1
          have r3 : W6.cell? ⟨b, 3, none⟩ = some (.slice none 0 0) := HB6.out.box.2.2.2.1
          have rz0 := HB6.out.fz 0
          have rz1 := HB6.out.fz 1
          have rz2 := HB6.out.fz 2
          have rz3 := HB6.out.fz 3
          have rl := HB6.out.lt
          go_wp2_with fail
          obtain ⟨X1, X2⟩ := HRET.out W6 HB6.out HW6.out x
          have k0 := X1.box.1
          have k1 := X1.box.2.1
          have k2 := X1.box.2.2.1
          have k3 := X1.box.2.2.2.1
          simp only [set4] at k0 k1 k2 k3
          refine bodyPost_ret (v := .tuple #[.agg #[.slice x.p1.a x.p1.n x.p1.c, .slice x.p2.a x.p2.n x.p2.c, .slice x.p3.a x.p3.n x.p3.c, .slice x.p4.a x.p4.n x.p4.c], .int .i64 0]) ?_ rfl (by rw [HE.out]; exact ⟨x, rfl, HS6.out.2.2.2.2.1.ret4 HS6.out.2.2.2.2.2 (by have := HS6.out.2.2.2.2.2; have := Hb.out; omega), X2⟩)
          simp [results, Try.results28, go_sem, k0, k1, k2, k3]
        · have HE : Hid (RF = (nilD, 8)) := HNO.out (fun h => hq (HQ.out.2 h.2))
          have hqb : (tw.toList == tz.toList) = false := by
            rw [beq_eq_false_iff_ne]
            intro h
            rw [ba_toList, ba_toList] at h
            apply hq
            cases tw; cases tz
            congr 1
            exact Array.toList_inj.1 h
          clear HYS HNO HQ
          have r0 : W6.cell? ⟨b, 0, none⟩ = some (.slice none 0 0) := HB6.out.box.1
          have r1 : W6.cell? ⟨b, 1, none⟩ = some (.slice none 0 0) := HB6.out.box.2.1
          have r2 : W6.cell? ⟨b, 2, none⟩ = some (.slice none 0 0) := HB6.out.box.2.2.1
          have r3 : W6.cell? ⟨b, 3, none⟩ = some (.slice none 0 0) := HB6.out.box.2.2.2.1
          have rz0 := HB6.out.fz 0
          have rz1 := HB6.out.fz 1
          have rz2 := HB6.out.fz 2
          have rz3 := HB6.out.fz 3
          have rl := HB6.out.lt
          go_wp2_with fail
          obtain ⟨X1, X2⟩ := HRET.out W6 HB6.out HW6.out nilDA
          have k0 := X1.box.1
          have k1 := X1.box.2.1
          have k2 := X1.box.2.2.1
          have k3 := X1.box.2.2.2.1
          simp only [set4] at k0 k1 k2 k3
          refine bodyPost_ret (v := .tuple #[.agg #[.slice none 0 0, .slice none 0 0, .slice none 0 0, .slice none 0 0], .int .i64 8]) ?_ rfl (by rw [HE.out]; exact ⟨nilDA, rfl, nil_down _ _, X2⟩)
          simp [results, Try.results28, go_sem, k0, k1, k2, k3]
      · have hCb : (C != 0) = true := by simp [hC]
        have HE : Hid (RF = (nilD, 8)) := HNO.out (fun h => hC h.1)
        clear HYS HNO HWR hC
        have r0 : W6.cell? ⟨b, 0, none⟩ = some (.slice none 0 0) := HB6.out.box.1
        have r1 : W6.cell? ⟨b, 1, none⟩ = some (.slice none 0 0) := HB6.out.box.2.1
        have r2 : W6.cell? ⟨b, 2, none⟩ = some (.slice none 0 0) := HB6.out.box.2.2.1
        have r3 : W6.cell? ⟨b, 3, none⟩ = some (.slice none 0 0) := HB6.out.box.2.2.2.1
        have rz0 := HB6.out.fz 0
        have rz1 := HB6.out.fz 1
        have rz2 := HB6.out.fz 2
        have rz3 := HB6.out.fz 3
        have rl := HB6.out.lt
        go_wp2_with fail
        obtain ⟨X1, X2⟩ := HRET.out W6 HB6.out HW6.out nilDA
        have k0 := X1.box.1
        have k1 := X1.box.2.1
        have k2 := X1.box.2.2.1
        have k3 := X1.box.2.2.2.1
        simp only [set4] at k0 k1 k2 k3
        refine bodyPost_ret (v := .tuple #[.agg #[.slice none 0 0, .slice none 0 0, .slice none 0 0, .slice none 0 0], .int .i64 8]) ?_ rfl (by rw [HE.out]; exact ⟨nilDA, rfl, nil_down _ _, X2⟩)
        simp [results, Try.results28, go_sem, k0, k1, k2, k3]
end Go.Proofs.Ytdeoembjfdbbkaa
