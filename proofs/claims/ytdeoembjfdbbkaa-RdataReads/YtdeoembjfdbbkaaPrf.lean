/- Texts laid together: Fg Fh Fi Ra Ga Gb Gc. -/
import Derived.Test.YtdeoembjfdbbkaaPre
import Derived.Deep.QuietTactic
import Derived.BigQuiet
/- The document's own answer: the bytes of data of a type but SOA. -/
namespace Go.Proofs.Ytdeoembjfdbbkaa
open Go.ChangeShapes Go.WideShapes Go.ChangeAt Go.RowKit
set_option linter.unusedVariables false
set_option linter.unusedSimpArgs false


set_option maxRecDepth 100000 in
set_option maxHeartbeats 4000000 in
theorem write_oth (t : Nat) (ht : t ≠ 6) (x : DA) (d : Dat) (w : World) (h : DRd w x d) (hck : checkF t d = 0) :
    Calls Try.prog 38 #[.int .u16 t, .agg #[.slice x.p1.a x.p1.n x.p1.c, .slice x.p2.a x.p2.n x.p2.c, .slice x.p3.a x.p3.n x.p3.c, .slice x.p4.a x.p4.n x.p4.c]] w fun e w' => ∃ v ys, e = .returned v ∧ Hid (Own w.heap.size w' v (writeF t d).length ys ∧ ys.take (writeF t d).length = writeF t d ∧ Below w.heap.size w w') := by
  have hb0 : Below w.heap.size w (w.alloc (.cells #[.slice x.p1.a x.p1.n x.p1.c, .slice x.p2.a x.p2.n x.p2.c, .slice x.p3.a x.p3.n x.p3.c, .slice x.p4.a x.p4.n x.p4.c] 29)) := (Below.refl _ _).alloc (Nat.le_refl _) _
  have H : Hid (DBox (w.alloc (.cells #[.slice x.p1.a x.p1.n x.p1.c, .slice x.p2.a x.p2.n x.p2.c, .slice x.p3.a x.p3.n x.p3.c, .slice x.p4.a x.p4.n x.p4.c] 29)) w.heap.size x ∧ DRd (w.alloc (.cells #[.slice x.p1.a x.p1.n x.p1.c, .slice x.p2.a x.p2.n x.p2.c, .slice x.p3.a x.p3.n x.p3.c, .slice x.p4.a x.p4.n x.p4.c] 29)) x d ∧ Below w.heap.size w (w.alloc (.cells #[.slice x.p1.a x.p1.n x.p1.c, .slice x.p2.a x.p2.n x.p2.c, .slice x.p3.a x.p3.n x.p3.c, .slice x.p4.a x.p4.n x.p4.c] 29))) := ⟨DBox.new w x, h.below hb0, hb0⟩
  have KO : Hid (∀ W, Calls Try.prog 48 #[.int .u16 t] W fun e w' => e = .returned (.tuple #[.agg #[.int .i64 (shp t).nn, .int .i64 (shp t).nu, .int .i64 (shp t).nt, .int .i64 (shp t).nr, .int .i64 (shp t).wd], .bool (mayT t)]) ∧ Hid (Below W.heap.size W w')) := fun W => of_any t W
  have HP : Hid (Wrt t d) := wrt_of hck
  have HL : Hid (d.ns.length = x.p1.n ∧ d.us.length = x.p2.n ∧ d.ts.length = x.p3.n ∧ d.raw.length = x.p4.n) := ⟨h.h1.len, h.h2.len, h.h3.len, h.h4.len⟩
  have HC : Hid (x.p1.n ≤ 9223372036854775807 ∧ x.p2.n ≤ 9223372036854775807 ∧ x.p3.n ≤ 9223372036854775807) := ⟨Nat.le_trans h.h1.cap.1 h.h1.cap.2, Nat.le_trans h.h2.cap.1 h.h2.cap.2, Nat.le_trans h.h3.cap.1 h.h3.cap.2⟩
  have HQ : Hid (writeF t d = d.us.flatMap (fun n => numB n (shp t).wd) ++ d.ns.flatMap nmB ++ tsB t d.ts ++ d.raw) := by
    show _ = _
    unfold writeF
    rw [if_neg ht]
  obtain ⟨C, hC⟩ : ∃ C, writeF t d = C := ⟨_, rfl⟩
  rw [hC] at HQ ⊢
  have HU : Hid (∀ u ∈ d.us, u ≤ most (shp t).wd ∧ ((shp t).wd = 1 ∨ (shp t).wd = 2 ∨ (shp t).wd = 4)) := HP.out.nu
  have HN : Hid (∀ n ∈ d.ns, nck n = 0) := HP.out.nm
  have HT : Hid (∀ k (h : k < d.ts.length), (t = 16 ∨ k = 0) → d.ts[k].size ≤ 255) := HP.out.tx
  have HZ : Hid ((d.us.flatMap (fun n => numB n (shp t).wd)).length + (d.ns.flatMap nmB).length + (tsB t d.ts).length + d.raw.length ≤ 65535) := HP.out.sz
  clear hC h hb0 hck HP
  generalize (shp t) = s at *
  generalize mayT t = mt at *
  obtain ⟨nn, nu, nt, nr, wd⟩ := s
  obtain ⟨⟨a1, n1, k1⟩, ⟨a2, n2, k2⟩, ⟨a3, n3, k3⟩, ⟨a4, n4, k4⟩⟩ := x
  simp only at H KO HL HC HU HZ HQ ⊢
  have q6 : ((t : Int) == 6) = false := by simp; omega
  have q6n : ((t : Int) != 6) = true := by simp; omega
  clear ht
  go_enter Try.func38, Try.ntmps38
  go_wp2_with fail
  generalize (w.alloc (.cells #[.slice a1 n1 k1, .slice a2 n2 k2, .slice a3 n3 k3, .slice a4 n4 k4] 29)) = W1 at *
  obtain ⟨b, hb⟩ : ∃ b, b = w.heap.size := ⟨_, rfl⟩
  rw [← hb] at H ⊢
  have Hb : Hid (b = w.heap.size) := hb
  clear hb
  refine (KO.out W1).mono ?_
  rintro e W2 ⟨rfl, H2⟩
  have H3 : Hid (CkSt w (W2.alloc (.cells #[.int .i64 nn, .int .i64 nu, .int .i64 nt, .int .i64 nr, .int .i64 wd] 67)) b W2.heap.size ⟨nn, nu, nt, nr, wd⟩ ⟨⟨a1, n1, k1⟩, ⟨a2, n2, k2⟩, ⟨a3, n3, k3⟩, ⟨a4, n4, k4⟩⟩ d) := CkSt.new ⟨nn, nu, nt, nr, wd⟩ (H.out.1.below H2.out) (H.out.2.1.below H2.out) (by have := H.out.2.2; rw [Hb.out] at this; exact this.trans (H2.out.mono this.size))
  clear H H2 KO
  go_upto_region 2 with fail
  generalize (W2.alloc (.cells #[.int .i64 nn, .int .i64 nu, .int .i64 nt, .int .i64 nr, .int .i64 wd] 67)) = W3 at *
  generalize W2.heap.size = g at *
  have HF : Hid (∀ W, Below W3.heap.size W3 W → CkSt w W b g ⟨nn, nu, nt, nr, wd⟩ ⟨⟨a1, n1, k1⟩, ⟨a2, n2, k2⟩, ⟨a3, n3, k3⟩, ⟨a4, n4, k4⟩⟩ d) := fun W hW => H3.out.go hW
  clear H3
  have hn1 := HC.out.1
  have hn2 := HC.out.2.1
  have hn3 := HC.out.2.2
  clear HC
  go_wp2_with fail
  go_loopw [7, 11] (fun v i wr => ∃ k m : Nat, k ≤ n2 ∧ m ≤ 65535 ∧ i = .int .i64 (k : Int) ∧ Hid (Gr W3 wr v m (([] : List Int) ++ (d.us.take k).flatMap (fun n => numB n wd)))) (fun _ i _ => n2 - (intOf i).toNat)
  case atStart => exact ⟨0, 0, Nat.zero_le _, by omega, rfl, by exact Gr.nil (Below.refl _ _)⟩
  case round =>
    obtain ⟨k, m, hkn, hm, rfl, HG⟩ := hrel
    have c1 := (HF.out wr HG.out.bel).1.2.1
    simp only at c1
    by_cases hlt : k < n2
    · have hlt' : (k : Int) < (n2 : Int) := by omega
      have hki : k < d.us.length := by rw [HL.out.2.1]; exact hlt
      obtain ⟨B2, o2, ha2, hl2, hz2⟩ := (HF.out wr HG.out.bel).2.2.1.h2.at k hki
      simp only at ha2
      subst ha2
      have s4 := (HF.out wr HG.out.bel).2.1.2.2.2.2.1
      have hgl := (HF.out wr HG.out.bel).2.1.2.2.2.2.2
      have hbl := (HF.out wr HG.out.bel).1.2.2.2.2
      simp only at s4
      have hu := HU.out _ (List.getElem_mem hki)
      have KN : Hid (∀ W, Calls Try.prog 61 #[.int .u32 (d.us[k] : Int), .int .i64 wd] W fun e w' => ∃ ao, e = .returned (.slice ao wd wd) ∧ Hid (Rd w' ao (numB d.us[k] wd) ∧ Below W.heap.size W w')) := fun W => rnumber_any d.us[k] wd W hu.2 hu.1
      have HE : Hid (([] : List Int) ++ (d.us.take (k + 1)).flatMap (fun n => numB n wd) = ([] : List Int) ++ (d.us.take k).flatMap (fun n => numB n wd) ++ numB d.us[k] wd) := by
        show _ = _
        rw [flat_snoc (fun n => numB n wd) d.us k hki, List.append_assoc]
      have HLn : Hid ((numB d.us[k] wd).length = wd ∧ wd ≠ 0) := ⟨numB_len _ _ hu.2, by omega⟩
      have hm2 : m + wd ≤ 65535 := by
        obtain ⟨ys, _, _, hLm, _⟩ := HG.out
        have h1 := congrArg List.length HE.out
        have h4 := HLn.out.1
        simp only [List.length_append, List.length_nil] at h1 hLm
        have h2 := flat_take (fun n => numB n wd) d.us (k + 1)
        have h3 := HZ.out
        omega
      clear hu
      have HCU : Hid (∀ W, Below W3.heap.size W3 W → W.cell? ⟨B2, o2 + k, none⟩ = some (.int .u32 (d.us[k] : Int))) := by
        intro W hW
        obtain ⟨b', o', e, _, h2⟩ := (HF.out W hW).2.2.1.h2.at k hki
        cases e
        exact h2
      generalize d.us[k] = u at *
      generalize numB u wd = nb at *
      go_wp2_with fail
      go_region_held3 (fun W => W.cell? ⟨b, 1, none⟩ = some (.slice (some ⟨B2, o2, none⟩) n2 k2) ∧ W.cell? ⟨B2, o2 + k, none⟩ = some (.int .u32 (u : Int)) ∧ W.cell? ⟨g, 4, none⟩ = some (.int .i64 wd)) (exact ⟨by go_keep, by go_keep, by go_keep⟩) (first
        | (go_at_call 61; refine (KN.out _).mono ?_; rintro e W5 ⟨ao, rfl, H5⟩; have HG5 : Hid (Gr W3 W5 u7 m (([] : List Int) ++ (d.us.take k).flatMap (fun n => numB n wd))) := (HG.out.go (Below.refl _ _).drew).go H5.out.2; have e1 : W5.cell? ⟨b, 1, none⟩ = some (.slice (some ⟨B2, o2, none⟩) n2 k2) := (H5.out.2.cell (p := ⟨b, 1, none⟩) hbl).trans c1; have e2 : W5.cell? ⟨B2, o2 + k, none⟩ = some (.int .u32 (u : Int)) := (H5.out.2.cell (p := ⟨B2, o2 + k, none⟩) hl2).trans hz2; have e3 : W5.cell? ⟨g, 4, none⟩ = some (.int .i64 wd) := (H5.out.2.cell (p := ⟨g, 4, none⟩) hgl).trans s4)
        | (refine st_gr W3 rfl _ _ rfl u7 m (([] : List Int) ++ (d.us.take k).flatMap (fun n => numB n wd)) rfl HG5.out ao wd wd nb rfl H5.out.1 HLn.out.1 (fun e => by subst e; have := rd_none H5.out.1; have := HLn.out; simp_all) (by omega) ?_; intro v6 W6 HG6; have f1 := (HF.out W6 HG6.out.bel).1.2.1; have f3 := (HF.out W6 HG6.out.bel).2.1.2.2.2.2.1; have f2 : W6.cell? ⟨B2, o2 + k, none⟩ = some (.int .u32 (u : Int)) := HCU.out W6 HG6.out.bel; simp only at f1 f3))
      go_wp2_with fail
      refine ⟨⟨k + 1, m + wd, by omega, hm2, by go_num, ?_⟩, by simp [intOf]; omega⟩
      have := HG6.out
      rw [← HE.out] at this
      exact this
    · have hge : ¬ (k : Int) < (n2 : Int) := by omega
      have HG2 : Hid (Gr W3 wr u7 m (([] : List Int) ++ d.us.flatMap (fun n => numB n wd))) := by
        have := HG.out
        rwa [List.take_of_length_le (by rw [HL.out.2.1]; omega)] at this
      clear HG
      go_wp2_with fail
      clear c1
      clear hge hkn hlt
      obtain ⟨wz, hz⟩ : ∃ z, z = wr := ⟨_, rfl⟩
      subst hz
      go_loopw [7, 12] (fun v i wr => ∃ k m : Nat, k ≤ n1 ∧ m ≤ 65535 ∧ i = .int .i64 (k : Int) ∧ Hid (Gr W3 wr v m (d.us.flatMap (fun n => numB n wd) ++ (d.ns.take k).flatMap nmB))) (fun _ i _ => n1 - (intOf i).toNat)
      case atStart => exact ⟨0, m, Nat.zero_le _, hm, rfl, by have := HG2.out; show Gr _ _ _ _ _; simpa using this⟩
      case round =>
        obtain ⟨k, m, hkn, hm, rfl, HG⟩ := hrel
        have c0 := (HF.out wr HG.out.bel).1.1
        simp only at c0
        by_cases hlt : k < n1
        · have hlt' : (k : Int) < ((n1 : Int)) := by omega
          have hlt1 : (k : Int) < (n1 : Int) := by omega
          have hki : k < d.ns.length := by rw [HL.out.1]; exact hlt
          obtain ⟨B1, o1, ha1, hl1, z1, hz1, hr1⟩ := (HF.out wr HG.out.bel).2.2.1.h1.at k hki
          simp only at ha1
          subst ha1
          have hk0 := HN.out _ (List.getElem_mem hki)
          have KB : Hid (∀ W, W = wr → Calls Try.prog 60 #[.slice z1.a z1.n z1.c] W fun e w' => ∃ ao cc, e = .returned (.tuple #[.slice ao (nmB d.ns[k]).length cc, .int .i64 0]) ∧ Hid (Rd w' ao (nmB d.ns[k]) ∧ (ao = none → cc = 0) ∧ Below W.heap.size W w')) := by
            intro W e
            subst e
            exact nbytes_rd z1.a z1.n z1.c d.ns[k] W ⟨hr1.rd, hr1.len, by have := (nck_small hk0).1; omega⟩ hk0
          have HE : Hid (d.us.flatMap (fun n => numB n wd) ++ (d.ns.take (k + 1)).flatMap nmB = d.us.flatMap (fun n => numB n wd) ++ (d.ns.take k).flatMap nmB ++ nmB d.ns[k]) := by
            show _ = _
            rw [flat_snoc nmB d.ns k hki, List.append_assoc]
          have hm2 : m + (nmB d.ns[k]).length ≤ 65535 := by
            obtain ⟨ys, _, _, hLm, _⟩ := HG.out
            have h1 := congrArg List.length HE.out
            simp only [List.length_append, List.length_nil] at h1 hLm
            have h2 := flat_take nmB d.ns (k + 1)
            have h3 := HZ.out
            omega
          clear hr1 hk0
          generalize hnb : nmB d.ns[k] = nb at *
          clear hnb
          generalize hq : nb.length = q at *
          have HQl : Hid (nb.length = q) := hq
          clear hq
          generalize z1.a = za at *
          generalize z1.n = zn at *
          generalize z1.c = zc at *
          go_wp2_with fail
          refine (KB.out _ rfl).mono ?_
          rintro e W5 ⟨ao, cc, rfl, H5⟩
          have HG5 : Hid (Gr W3 W5 u7 m (d.us.flatMap (fun n => numB n wd) ++ (d.ns.take k).flatMap nmB)) := HG.out.go H5.out.2.2
          go_wp2_with (at_builtin; refine wp_gr W3 _ rfl _ _ rfl u7 m (d.us.flatMap (fun n => numB n wd) ++ (d.ns.take k).flatMap nmB) rfl HG5.out ao q cc nb rfl H5.out.1 HQl.out H5.out.2.1 (by omega) ?_; intro v6 W6 HG6)
          refine ⟨⟨k + 1, m + q, by omega, hm2, by go_num, ?_⟩, by simp [intOf]; omega⟩
          have := HG6.out
          rw [← HE.out] at this
          exact this
        · have hge : ¬ (k : Int) < ((n1 : Int)) := by omega
          have HG2 : Hid (Gr W3 wr u7 m (d.us.flatMap (fun n => numB n wd) ++ d.ns.flatMap nmB)) := by
            have := HG.out
            rwa [List.take_of_length_le (by rw [HL.out.1]; omega)] at this
          clear HG
          go_wp2_with fail
          clear c0
          clear hge hkn hlt
          obtain ⟨wz, hz⟩ : ∃ z, z = wr := ⟨_, rfl⟩
          subst hz
          go_loopw [7, 15] (fun v i wr => ∃ k m : Nat, k ≤ n3 ∧ m ≤ 65535 ∧ i = .int .i64 (k : Int) ∧ Hid (Gr W3 wr v m ((d.us.flatMap (fun n => numB n wd) ++ d.ns.flatMap nmB) ++ tsB t (d.ts.take k)))) (fun _ i _ => n3 - (intOf i).toNat)
          case atStart => exact ⟨0, m, Nat.zero_le _, hm, rfl, by have := HG2.out; show Gr _ _ _ _ _; simpa [tsB, nby] using this⟩
          case round =>
            obtain ⟨k, m, hkn, hm, rfl, HG⟩ := hrel
            have c2 := (HF.out wr HG.out.bel).1.2.2.1
            simp only at c2
            by_cases hlt : k < n3
            · have hlt' : (k : Int) < (n3 : Int) := by omega
              have hki : k < d.ts.length := by rw [HL.out.2.2.1]; exact hlt
              obtain ⟨B3, o3, ha3, hl3, hz3⟩ := (HF.out wr HG.out.bel).2.2.1.h3.rd.at k hki
              simp only at ha3
              subst ha3
              have HCT : Hid (∀ W, Below W3.heap.size W3 W → W.cell? ⟨B3, o3 + k, none⟩ = some (.string d.ts[k])) := by
                intro W hW
                obtain ⟨b', o', e, _, h2⟩ := (HF.out W hW).2.2.1.h3.rd.at k hki
                cases e
                exact h2
              have hsz := HT.out k hki
              have hE0 : (d.us.flatMap (fun n => numB n wd) ++ d.ns.flatMap nmB) ++ tsB t (d.ts.take (k + 1)) = (d.us.flatMap (fun n => numB n wd) ++ d.ns.flatMap nmB) ++ tsB t (d.ts.take k) ++ (if t = 16 ∨ d.ts.take k = [] then [(d.ts[k].size : Int)] else []) ++ nums d.ts[k] := by
                rw [List.take_succ_eq_append_getElem hki, tsB_snoc]
                simp only [List.append_assoc]
              have hnil : d.ts.take k = [] ↔ k = 0 := by
                constructor
                · intro e
                  have := congrArg List.length e
                  rw [List.length_take] at this
                  simp only [List.length_nil] at this
                  omega
                · rintro rfl; rfl
              have hmx : ((d.us.flatMap (fun n => numB n wd) ++ d.ns.flatMap nmB) ++ tsB t (d.ts.take (k + 1))).length ≤ 65535 ∧ ((d.us.flatMap (fun n => numB n wd) ++ d.ns.flatMap nmB) ++ tsB t (d.ts.take k)).length = m := by
                obtain ⟨ys, _, _, hLm, _⟩ := HG.out
                refine ⟨?_, hLm⟩
                have h2 := tsz_take t d.ts (k + 1)
                rw [← tsB_len, ← tsB_len] at h2
                have h3 := HZ.out
                simp only [List.length_append]
                omega
              generalize d.ts[k] = s at *
              by_cases hone : t = 16 ∨ k = 0
              · have hs255 := hsz hone
                rw [if_pos (by rw [hnil]; exact hone)] at hE0
                have HE : Hid ((d.us.flatMap (fun n => numB n wd) ++ d.ns.flatMap nmB) ++ tsB t (d.ts.take (k + 1)) = (d.us.flatMap (fun n => numB n wd) ++ d.ns.flatMap nmB) ++ tsB t (d.ts.take k) ++ [(s.size : Int)] ++ nums s) := hE0
                have hm2 : m + 1 + s.size ≤ 65535 := by
                  have h1 := congrArg List.length HE.out
                  have hm0 := hmx.2
                  have hm1 := hmx.1
                  simp only [List.length_append, List.length_cons, List.length_nil, nums_len] at h1 hm0 hm1
                  omega
                have hnb : Below wr.heap.size wr (wr.alloc (.cells #[.int .u8 (s.size : Int)] 5)) := (Below.refl _ _).alloc (Nat.le_refl _) _
                have HG5 : Hid (Gr W3 (wr.alloc (.cells #[.int .u8 (s.size : Int)] 5)) u7 m ((d.us.flatMap (fun n => numB n wd) ++ d.ns.flatMap nmB) ++ tsB t (d.ts.take k))) := HG.out.go hnb
                have HR5 : Hid (Rd (wr.alloc (.cells #[.int .u8 (s.size : Int)] 5)) (some ⟨wr.heap.size, 0, none⟩) [(s.size : Int)]) := new_rd wr _ (by omega)
                have hmod : (s.size : Int) % 256 = (s.size : Int) := by omega
                have hcs : t = 16 ∨ (((t : Int) == 16) = false ∧ k = 0) := by
                  by_cases h16 : t = 16
                  · exact .inl h16
                  · exact .inr ⟨by simp; omega, by omega⟩
                clear hE0 hnil hmx hsz hone hnb
                rcases hcs with h16 | ⟨h16, h00⟩
                · have q16 : ((t : Int) == 16) = true := by simp; omega
                  have H16 : Hid (t = 16) := h16
                  clear h16
                  go_wp2_with (at_builtin; first
                    | (refine wp_gr W3 _ rfl _ _ rfl u7 m ((d.us.flatMap (fun n => numB n wd) ++ d.ns.flatMap nmB) ++ tsB t (d.ts.take k)) rfl HG5.out (some ⟨wr.heap.size, 0, none⟩) 1 1 [(s.size : Int)] rfl HR5.out rfl (by simp) (by omega) ?_; intro v6 W6 HG6; have f2 := (HF.out W6 HG6.out.bel).1.2.2.1; have f3 : W6.cell? ⟨B3, o3 + k, none⟩ = some (.string s) := HCT.out W6 HG6.out.bel; simp only at f2)
                    | (refine wp_grs W3 _ rfl _ _ rfl _ (m + 1) (((d.us.flatMap (fun n => numB n wd) ++ d.ns.flatMap nmB) ++ tsB t (d.ts.take k)) ++ [(s.size : Int)]) rfl HG6.out s rfl (by omega) ?_; intro v7 W7 HG7))
                  refine ⟨⟨k + 1, m + 1 + s.size, by omega, hm2, by go_num, ?_⟩, by simp [intOf]; omega⟩
                  have := HG7.out
                  rw [← HE.out] at this
                  exact this
                · have qj : ((k : Int) == 0) = true := by simp; omega
                  have HJ0 : Hid (k = 0) := h00
                  clear h00
                  go_wp2_with (at_builtin; first
                    | (refine wp_gr W3 _ rfl _ _ rfl u7 m ((d.us.flatMap (fun n => numB n wd) ++ d.ns.flatMap nmB) ++ tsB t (d.ts.take k)) rfl HG5.out (some ⟨wr.heap.size, 0, none⟩) 1 1 [(s.size : Int)] rfl HR5.out rfl (by simp) (by omega) ?_; intro v6 W6 HG6; have f2 := (HF.out W6 HG6.out.bel).1.2.2.1; have f3 : W6.cell? ⟨B3, o3 + k, none⟩ = some (.string s) := HCT.out W6 HG6.out.bel; simp only at f2)
                    | (refine wp_grs W3 _ rfl _ _ rfl _ (m + 1) (((d.us.flatMap (fun n => numB n wd) ++ d.ns.flatMap nmB) ++ tsB t (d.ts.take k)) ++ [(s.size : Int)]) rfl HG6.out s rfl (by omega) ?_; intro v7 W7 HG7))
                  refine ⟨⟨k + 1, m + 1 + s.size, by omega, hm2, by go_num, ?_⟩, by simp [intOf]; omega⟩
                  have := HG7.out
                  rw [← HE.out] at this
                  exact this
              · rw [if_neg (by rw [hnil]; exact hone), List.append_nil] at hE0
                have HE : Hid ((d.us.flatMap (fun n => numB n wd) ++ d.ns.flatMap nmB) ++ tsB t (d.ts.take (k + 1)) = (d.us.flatMap (fun n => numB n wd) ++ d.ns.flatMap nmB) ++ tsB t (d.ts.take k) ++ nums s) := hE0
                have hm2 : m + s.size ≤ 65535 := by
                  have h1 := congrArg List.length HE.out
                  have hm0 := hmx.2
                  have hm1 := hmx.1
                  simp only [List.length_append, nums_len] at h1 hm0 hm1
                  omega
                have q16 : ((t : Int) == 16) = false := by simp; omega
                have qj : ((k : Int) == 0) = false := by simp; omega
                clear hE0 hnil hmx hsz hone
                go_wp2_with (at_builtin; refine wp_grs W3 _ rfl _ _ rfl u7 m ((d.us.flatMap (fun n => numB n wd) ++ d.ns.flatMap nmB) ++ tsB t (d.ts.take k)) rfl HG.out s rfl (by omega) ?_; intro v7 W7 HG7)
                refine ⟨⟨k + 1, m + s.size, by omega, hm2, by go_num, ?_⟩, by simp [intOf]; omega⟩
                have := HG7.out
                rw [← HE.out] at this
                exact this
            · have hge : ¬ (k : Int) < (n3 : Int) := by omega
              have HG2 : Hid (Gr W3 wr u7 m ((d.us.flatMap (fun n => numB n wd) ++ d.ns.flatMap nmB) ++ tsB t d.ts)) := by
                have := HG.out
                rwa [List.take_of_length_le (by rw [HL.out.2.2.1]; omega)] at this
              have c3 := (HF.out wr HG.out.bel).1.2.2.2.1
              have HR4 : Hid (Rd wr a4 d.raw ∧ (a4 = none → k4 = 0)) := ⟨(HF.out wr HG.out.bel).2.2.1.h4.rd, (HF.out wr HG.out.bel).2.2.1.h4.nil⟩
              simp only at c3
              have hm4 : m + n4 ≤ 140737488355328 := by have := HZ.out; have := HL.out.2.2.2; omega
              clear HG
              go_wp2_with (at_builtin; refine wp_gr W3 _ rfl _ _ rfl u7 m (d.us.flatMap (fun n => numB n wd) ++ d.ns.flatMap nmB ++ tsB t d.ts) rfl HG2.out a4 n4 k4 d.raw rfl HR4.out.1 HL.out.2.2.2 HR4.out.2 hm4 ?_; intro v8 W8 HG8)
              go_ret
              obtain ⟨ys, h1, h2, h3, h4⟩ := HG8.out
              rw [← HQ.out] at h2 h3
              refine ⟨v8, rfl, ys, ?_, ?_, (HF.out _ h4).2.2.2⟩
              · rw [h3]; exact own_mono h1 (HF.out _ (Below.refl _ _)).2.2.2.size
              · rw [h3]; exact h2
end Go.Proofs.Ytdeoembjfdbbkaa
/- The document's own answer: the bytes of data of SOA. -/
namespace Go.Proofs.Ytdeoembjfdbbkaa
open Go.ChangeShapes Go.WideShapes Go.ChangeAt Go.RowKit
set_option linter.unusedVariables false
set_option linter.unusedSimpArgs false


set_option maxRecDepth 100000 in
set_option maxHeartbeats 4000000 in
theorem write_soa (t : Nat) (ht : t = 6) (x : DA) (d : Dat) (w : World) (h : DRd w x d) (hck : checkF t d = 0) :
    Calls Try.prog 38 #[.int .u16 t, .agg #[.slice x.p1.a x.p1.n x.p1.c, .slice x.p2.a x.p2.n x.p2.c, .slice x.p3.a x.p3.n x.p3.c, .slice x.p4.a x.p4.n x.p4.c]] w fun e w' => ∃ v ys, e = .returned v ∧ Hid (Own w.heap.size w' v (writeF t d).length ys ∧ ys.take (writeF t d).length = writeF t d ∧ Below w.heap.size w w') := by
  have hb0 : Below w.heap.size w (w.alloc (.cells #[.slice x.p1.a x.p1.n x.p1.c, .slice x.p2.a x.p2.n x.p2.c, .slice x.p3.a x.p3.n x.p3.c, .slice x.p4.a x.p4.n x.p4.c] 29)) := (Below.refl _ _).alloc (Nat.le_refl _) _
  have H : Hid (DBox (w.alloc (.cells #[.slice x.p1.a x.p1.n x.p1.c, .slice x.p2.a x.p2.n x.p2.c, .slice x.p3.a x.p3.n x.p3.c, .slice x.p4.a x.p4.n x.p4.c] 29)) w.heap.size x ∧ DRd (w.alloc (.cells #[.slice x.p1.a x.p1.n x.p1.c, .slice x.p2.a x.p2.n x.p2.c, .slice x.p3.a x.p3.n x.p3.c, .slice x.p4.a x.p4.n x.p4.c] 29)) x d ∧ Below w.heap.size w (w.alloc (.cells #[.slice x.p1.a x.p1.n x.p1.c, .slice x.p2.a x.p2.n x.p2.c, .slice x.p3.a x.p3.n x.p3.c, .slice x.p4.a x.p4.n x.p4.c] 29))) := ⟨DBox.new w x, h.below hb0, hb0⟩
  have KO : Hid (∀ W, Calls Try.prog 48 #[.int .u16 t] W fun e w' => e = .returned (.tuple #[.agg #[.int .i64 (shp t).nn, .int .i64 (shp t).nu, .int .i64 (shp t).nt, .int .i64 (shp t).nr, .int .i64 (shp t).wd], .bool (mayT t)]) ∧ Hid (Below W.heap.size W w')) := fun W => of_any t W
  have HP : Hid (Wrt t d) := wrt_of hck
  have HL : Hid (d.ns.length = x.p1.n ∧ d.us.length = x.p2.n ∧ d.ts.length = x.p3.n ∧ d.raw.length = x.p4.n) := ⟨h.h1.len, h.h2.len, h.h3.len, h.h4.len⟩
  have HC : Hid (x.p1.n ≤ 9223372036854775807 ∧ x.p2.n ≤ 9223372036854775807 ∧ x.p3.n ≤ 9223372036854775807) := ⟨Nat.le_trans h.h1.cap.1 h.h1.cap.2, Nat.le_trans h.h2.cap.1 h.h2.cap.2, Nat.le_trans h.h3.cap.1 h.h3.cap.2⟩
  have HQ : Hid (writeF t d = d.ns.flatMap nmB ++ d.us.flatMap (fun n => numB n (shp t).wd)) := by
    show _ = _
    subst ht
    rfl
  obtain ⟨C, hC⟩ : ∃ C, writeF t d = C := ⟨_, rfl⟩
  rw [hC] at HQ ⊢
  have HU : Hid (∀ u ∈ d.us, u ≤ most (shp t).wd ∧ ((shp t).wd = 1 ∨ (shp t).wd = 2 ∨ (shp t).wd = 4)) := HP.out.nu
  have HN : Hid (∀ n ∈ d.ns, nck n = 0) := HP.out.nm
  have HT : Hid (∀ k (h : k < d.ts.length), (t = 16 ∨ k = 0) → d.ts[k].size ≤ 255) := HP.out.tx
  have HZ : Hid ((d.us.flatMap (fun n => numB n (shp t).wd)).length + (d.ns.flatMap nmB).length + (tsB t d.ts).length + d.raw.length ≤ 65535) := HP.out.sz
  have HS : Hid (d.ns.length = 2 ∧ d.ts = [] ∧ d.raw = []) := HP.out.soa ht
  clear hC h hb0 hck HP
  generalize (shp t) = s at *
  generalize mayT t = mt at *
  obtain ⟨nn, nu, nt, nr, wd⟩ := s
  obtain ⟨⟨a1, n1, k1⟩, ⟨a2, n2, k2⟩, ⟨a3, n3, k3⟩, ⟨a4, n4, k4⟩⟩ := x
  simp only at H KO HL HC HU HZ HQ ⊢
  subst ht
  go_enter Try.func38, Try.ntmps38
  go_wp2_with fail
  generalize (w.alloc (.cells #[.slice a1 n1 k1, .slice a2 n2 k2, .slice a3 n3 k3, .slice a4 n4 k4] 29)) = W1 at *
  obtain ⟨b, hb⟩ : ∃ b, b = w.heap.size := ⟨_, rfl⟩
  rw [← hb] at H ⊢
  have Hb : Hid (b = w.heap.size) := hb
  clear hb
  refine (KO.out W1).mono ?_
  rintro e W2 ⟨rfl, H2⟩
  have H3 : Hid (CkSt w (W2.alloc (.cells #[.int .i64 nn, .int .i64 nu, .int .i64 nt, .int .i64 nr, .int .i64 wd] 67)) b W2.heap.size ⟨nn, nu, nt, nr, wd⟩ ⟨⟨a1, n1, k1⟩, ⟨a2, n2, k2⟩, ⟨a3, n3, k3⟩, ⟨a4, n4, k4⟩⟩ d) := CkSt.new ⟨nn, nu, nt, nr, wd⟩ (H.out.1.below H2.out) (H.out.2.1.below H2.out) (by have := H.out.2.2; rw [Hb.out] at this; exact this.trans (H2.out.mono this.size))
  clear H H2 KO
  go_upto_region 2 with fail
  generalize (W2.alloc (.cells #[.int .i64 nn, .int .i64 nu, .int .i64 nt, .int .i64 nr, .int .i64 wd] 67)) = W3 at *
  generalize W2.heap.size = g at *
  have HF : Hid (∀ W, Below W3.heap.size W3 W → CkSt w W b g ⟨nn, nu, nt, nr, wd⟩ ⟨⟨a1, n1, k1⟩, ⟨a2, n2, k2⟩, ⟨a3, n3, k3⟩, ⟨a4, n4, k4⟩⟩ d) := fun W hW => H3.out.go hW
  clear H3
  have hn1 := HC.out.1
  have hn2 := HC.out.2.1
  have hn3 := HC.out.2.2
  clear HC
  go_wp2_with fail
  have HS2 : Hid (n1 = 2) := by have h1 := HL.out.1; rw [HS.out.1] at h1; exact h1.symm
  go_loopw [7, 8] (fun v i wr => ∃ k m : Nat, k ≤ n1 ∧ m ≤ 65535 ∧ i = .int .i64 (k : Int) ∧ Hid (Gr W3 wr v m (([] : List Int) ++ (d.ns.take k).flatMap nmB))) (fun _ i _ => n1 - (intOf i).toNat)
  case atStart => exact ⟨0, 0, Nat.zero_le _, by omega, rfl, by exact Gr.nil (Below.refl _ _)⟩
  case round =>
    obtain ⟨k, m, hkn, hm, rfl, HG⟩ := hrel
    have c0 := (HF.out wr HG.out.bel).1.1
    simp only at c0
    by_cases hlt : k < n1
    · have hlt' : (k : Int) < (2) := by have := HS2.out; omega
      have hlt1 : (k : Int) < (n1 : Int) := by omega
      have hki : k < d.ns.length := by rw [HL.out.1]; exact hlt
      obtain ⟨B1, o1, ha1, hl1, z1, hz1, hr1⟩ := (HF.out wr HG.out.bel).2.2.1.h1.at k hki
      simp only at ha1
      subst ha1
      have hk0 := HN.out _ (List.getElem_mem hki)
      have KB : Hid (∀ W, W = wr → Calls Try.prog 60 #[.slice z1.a z1.n z1.c] W fun e w' => ∃ ao cc, e = .returned (.tuple #[.slice ao (nmB d.ns[k]).length cc, .int .i64 0]) ∧ Hid (Rd w' ao (nmB d.ns[k]) ∧ (ao = none → cc = 0) ∧ Below W.heap.size W w')) := by
        intro W e
        subst e
        exact nbytes_rd z1.a z1.n z1.c d.ns[k] W ⟨hr1.rd, hr1.len, by have := (nck_small hk0).1; omega⟩ hk0
      have HE : Hid (([] : List Int) ++ (d.ns.take (k + 1)).flatMap nmB = ([] : List Int) ++ (d.ns.take k).flatMap nmB ++ nmB d.ns[k]) := by
        show _ = _
        rw [flat_snoc nmB d.ns k hki, List.append_assoc]
      have hm2 : m + (nmB d.ns[k]).length ≤ 65535 := by
        obtain ⟨ys, _, _, hLm, _⟩ := HG.out
        have h1 := congrArg List.length HE.out
        simp only [List.length_append, List.length_nil] at h1 hLm
        have h2 := flat_take nmB d.ns (k + 1)
        have h3 := HZ.out
        omega
      clear hr1 hk0
      generalize hnb : nmB d.ns[k] = nb at *
      clear hnb
      generalize hq : nb.length = q at *
      have HQl : Hid (nb.length = q) := hq
      clear hq
      generalize z1.a = za at *
      generalize z1.n = zn at *
      generalize z1.c = zc at *
      go_wp2_with fail
      refine (KB.out _ rfl).mono ?_
      rintro e W5 ⟨ao, cc, rfl, H5⟩
      have HG5 : Hid (Gr W3 W5 u7 m (([] : List Int) ++ (d.ns.take k).flatMap nmB)) := HG.out.go H5.out.2.2
      go_wp2_with (at_builtin; refine wp_gr W3 _ rfl _ _ rfl u7 m (([] : List Int) ++ (d.ns.take k).flatMap nmB) rfl HG5.out ao q cc nb rfl H5.out.1 HQl.out H5.out.2.1 (by omega) ?_; intro v6 W6 HG6)
      refine ⟨⟨k + 1, m + q, by omega, hm2, by go_num, ?_⟩, by simp [intOf]; omega⟩
      have := HG6.out
      rw [← HE.out] at this
      exact this
    · have hge : ¬ (k : Int) < (2) := by have := HS2.out; omega
      have HG2 : Hid (Gr W3 wr u7 m (([] : List Int) ++ d.ns.flatMap nmB)) := by
        have := HG.out
        rwa [List.take_of_length_le (by rw [HL.out.1]; omega)] at this
      clear HG
      go_wp2_with fail
      clear c0
      clear hge hkn hlt
      obtain ⟨wz, hz⟩ : ∃ z, z = wr := ⟨_, rfl⟩
      subst hz
      go_loopw [7, 11] (fun v i wr => ∃ k m : Nat, k ≤ n2 ∧ m ≤ 65535 ∧ i = .int .i64 (k : Int) ∧ Hid (Gr W3 wr v m (d.ns.flatMap nmB ++ (d.us.take k).flatMap (fun n => numB n wd)))) (fun _ i _ => n2 - (intOf i).toNat)
      case atStart => exact ⟨0, m, Nat.zero_le _, hm, rfl, by have := HG2.out; show Gr _ _ _ _ _; simpa using this⟩
      case round =>
        obtain ⟨k, m, hkn, hm, rfl, HG⟩ := hrel
        have c1 := (HF.out wr HG.out.bel).1.2.1
        simp only at c1
        by_cases hlt : k < n2
        · have hlt' : (k : Int) < (n2 : Int) := by omega
          have hki : k < d.us.length := by rw [HL.out.2.1]; exact hlt
          obtain ⟨B2, o2, ha2, hl2, hz2⟩ := (HF.out wr HG.out.bel).2.2.1.h2.at k hki
          simp only at ha2
          subst ha2
          have s4 := (HF.out wr HG.out.bel).2.1.2.2.2.2.1
          have hgl := (HF.out wr HG.out.bel).2.1.2.2.2.2.2
          have hbl := (HF.out wr HG.out.bel).1.2.2.2.2
          simp only at s4
          have hu := HU.out _ (List.getElem_mem hki)
          have KN : Hid (∀ W, Calls Try.prog 61 #[.int .u32 (d.us[k] : Int), .int .i64 wd] W fun e w' => ∃ ao, e = .returned (.slice ao wd wd) ∧ Hid (Rd w' ao (numB d.us[k] wd) ∧ Below W.heap.size W w')) := fun W => rnumber_any d.us[k] wd W hu.2 hu.1
          have HE : Hid (d.ns.flatMap nmB ++ (d.us.take (k + 1)).flatMap (fun n => numB n wd) = d.ns.flatMap nmB ++ (d.us.take k).flatMap (fun n => numB n wd) ++ numB d.us[k] wd) := by
            show _ = _
            rw [flat_snoc (fun n => numB n wd) d.us k hki, List.append_assoc]
          have HLn : Hid ((numB d.us[k] wd).length = wd ∧ wd ≠ 0) := ⟨numB_len _ _ hu.2, by omega⟩
          have hm2 : m + wd ≤ 65535 := by
            obtain ⟨ys, _, _, hLm, _⟩ := HG.out
            have h1 := congrArg List.length HE.out
            have h4 := HLn.out.1
            simp only [List.length_append, List.length_nil] at h1 hLm
            have h2 := flat_take (fun n => numB n wd) d.us (k + 1)
            have h3 := HZ.out
            omega
          clear hu
          have HCU : Hid (∀ W, Below W3.heap.size W3 W → W.cell? ⟨B2, o2 + k, none⟩ = some (.int .u32 (d.us[k] : Int))) := by
            intro W hW
            obtain ⟨b', o', e, _, h2⟩ := (HF.out W hW).2.2.1.h2.at k hki
            cases e
            exact h2
          generalize d.us[k] = u at *
          generalize numB u wd = nb at *
          go_wp2_with fail
          go_region_held3 (fun W => W.cell? ⟨b, 1, none⟩ = some (.slice (some ⟨B2, o2, none⟩) n2 k2) ∧ W.cell? ⟨B2, o2 + k, none⟩ = some (.int .u32 (u : Int)) ∧ W.cell? ⟨g, 4, none⟩ = some (.int .i64 wd)) (exact ⟨by go_keep, by go_keep, by go_keep⟩) (first
            | (go_at_call 61; refine (KN.out _).mono ?_; rintro e W5 ⟨ao, rfl, H5⟩; have HG5 : Hid (Gr W3 W5 u7 m (d.ns.flatMap nmB ++ (d.us.take k).flatMap (fun n => numB n wd))) := (HG.out.go (Below.refl _ _).drew).go H5.out.2; have e1 : W5.cell? ⟨b, 1, none⟩ = some (.slice (some ⟨B2, o2, none⟩) n2 k2) := (H5.out.2.cell (p := ⟨b, 1, none⟩) hbl).trans c1; have e2 : W5.cell? ⟨B2, o2 + k, none⟩ = some (.int .u32 (u : Int)) := (H5.out.2.cell (p := ⟨B2, o2 + k, none⟩) hl2).trans hz2; have e3 : W5.cell? ⟨g, 4, none⟩ = some (.int .i64 wd) := (H5.out.2.cell (p := ⟨g, 4, none⟩) hgl).trans s4)
            | (refine st_gr W3 rfl _ _ rfl u7 m (d.ns.flatMap nmB ++ (d.us.take k).flatMap (fun n => numB n wd)) rfl HG5.out ao wd wd nb rfl H5.out.1 HLn.out.1 (fun e => by subst e; have := rd_none H5.out.1; have := HLn.out; simp_all) (by omega) ?_; intro v6 W6 HG6; have f1 := (HF.out W6 HG6.out.bel).1.2.1; have f3 := (HF.out W6 HG6.out.bel).2.1.2.2.2.2.1; have f2 : W6.cell? ⟨B2, o2 + k, none⟩ = some (.int .u32 (u : Int)) := HCU.out W6 HG6.out.bel; simp only at f1 f3))
          go_wp2_with fail
          refine ⟨⟨k + 1, m + wd, by omega, hm2, by go_num, ?_⟩, by simp [intOf]; omega⟩
          have := HG6.out
          rw [← HE.out] at this
          exact this
        · have hge : ¬ (k : Int) < (n2 : Int) := by omega
          have HG2 : Hid (Gr W3 wr u7 m (d.ns.flatMap nmB ++ d.us.flatMap (fun n => numB n wd))) := by
            have := HG.out
            rwa [List.take_of_length_le (by rw [HL.out.2.1]; omega)] at this
          clear HG
          go_wp2_with fail
          clear c1
          obtain ⟨wz, hz⟩ : ∃ z, z = wr := ⟨_, rfl⟩
          subst hz
          go_loopw [7, 12] (fun v i wr => i = .int .i64 0 ∧ Hid (Gr W3 wr v m (d.ns.flatMap nmB ++ d.us.flatMap (fun n => numB n wd)))) (fun _ _ _ => 0)
          case atStart => exact ⟨rfl, HG2⟩
          case round =>
            obtain ⟨rfl, HG⟩ := hrel
            clear HG2
            go_wp2_with fail
            obtain ⟨wz, hz⟩ : ∃ z, z = wr := ⟨_, rfl⟩
            subst hz
            go_loopw [7, 15] (fun v i wr => i = .int .i64 0 ∧ Hid (Gr W3 wr v m (d.ns.flatMap nmB ++ d.us.flatMap (fun n => numB n wd)))) (fun _ _ _ => 0)
            case atStart => exact ⟨rfl, HG⟩
            case round =>
              obtain ⟨rfl, HG2⟩ := hrel
              clear HG
              have c2 := (HF.out wr HG2.out.bel).1.2.2.1
              have c3 := (HF.out wr HG2.out.bel).1.2.2.2.1
              have HR4 : Hid (Rd wr a4 d.raw ∧ (a4 = none → k4 = 0)) := ⟨(HF.out wr HG2.out.bel).2.2.1.h4.rd, (HF.out wr HG2.out.bel).2.2.1.h4.nil⟩
              simp only at c2 c3
              have hge3 : ¬ (0 : Int) < (n3 : Int) := by
                have h1 := HL.out.2.2.1
                rw [HS.out.2.1] at h1
                simp at h1
                omega
              have hm4 : m + n4 ≤ 140737488355328 := by have := HZ.out; have := HL.out.2.2.2; omega
              have HQ2 : Hid (C = d.ns.flatMap nmB ++ d.us.flatMap (fun n => numB n wd) ++ d.raw) := by
                show _ = _
                rw [HQ.out, HS.out.2.2, List.append_nil]
              go_wp2_with (at_builtin; refine wp_gr W3 _ rfl _ _ rfl u7 m (d.ns.flatMap nmB ++ d.us.flatMap (fun n => numB n wd)) rfl HG2.out a4 n4 k4 d.raw rfl HR4.out.1 HL.out.2.2.2 HR4.out.2 hm4 ?_; intro v8 W8 HG8)
              go_ret
              obtain ⟨ys, h1, h2, h3, h4⟩ := HG8.out
              rw [← HQ2.out] at h2 h3
              refine ⟨v8, rfl, ys, ?_, ?_, (HF.out _ h4).2.2.2⟩
              · rw [h3]; exact own_mono h1 (HF.out _ (Below.refl _ _)).2.2.2.size
              · rw [h3]; exact h2
theorem write_any (t : Nat) (x : DA) (d : Dat) (w : World) (h : DRd w x d) (hck : checkF t d = 0) :
    Calls Try.prog 38 #[.int .u16 t, .agg #[.slice x.p1.a x.p1.n x.p1.c, .slice x.p2.a x.p2.n x.p2.c, .slice x.p3.a x.p3.n x.p3.c, .slice x.p4.a x.p4.n x.p4.c]] w fun e w' => ∃ v ys, e = .returned v ∧ Hid (Own w.heap.size w' v (writeF t d).length ys ∧ ys.take (writeF t d).length = writeF t d ∧ Below w.heap.size w w') := by
  by_cases h6 : t = 6
  · exact write_soa t h6 x d w h hck
  · exact write_oth t h6 x d w h hck
end Go.Proofs.Ytdeoembjfdbbkaa
/- The document's own answer: the bytes of data, or the error. -/
namespace Go.Proofs.Ytdeoembjfdbbkaa
open Go.ChangeShapes Go.WideShapes Go.ChangeAt Go.RowKit
set_option linter.unusedVariables false
set_option linter.unusedSimpArgs false


def bytesF (t : Nat) (d : Dat) : List Int × Int := if checkF t d = 0 then (writeF t d, 0) else ([], checkF t d)
set_option maxRecDepth 100000 in
set_option maxHeartbeats 4000000 in
theorem rbytes_any (t : Nat) (x : DA) (d : Dat) (w : World) (h : DRd w x d) (hB : sizesF t d ≤ 1000000000000000) :
    Calls Try.prog 11 #[.int .u16 t, .agg #[.slice x.p1.a x.p1.n x.p1.c, .slice x.p2.a x.p2.n x.p2.c, .slice x.p3.a x.p3.n x.p3.c, .slice x.p4.a x.p4.n x.p4.c]] w fun e w' => ∃ v ys, e = .returned (.tuple #[v, .int .i64 (bytesF t d).2]) ∧ Hid (Own w.heap.size w' v (bytesF t d).1.length ys ∧ ys.take (bytesF t d).1.length = (bytesF t d).1 ∧ Below w.heap.size w w') := by
  have hb0 : Below w.heap.size w (w.alloc (.cells #[.slice x.p1.a x.p1.n x.p1.c, .slice x.p2.a x.p2.n x.p2.c, .slice x.p3.a x.p3.n x.p3.c, .slice x.p4.a x.p4.n x.p4.c] 29)) := (Below.refl _ _).alloc (Nat.le_refl _) _
  have H : Hid (DBox (w.alloc (.cells #[.slice x.p1.a x.p1.n x.p1.c, .slice x.p2.a x.p2.n x.p2.c, .slice x.p3.a x.p3.n x.p3.c, .slice x.p4.a x.p4.n x.p4.c] 29)) w.heap.size x ∧ DRd (w.alloc (.cells #[.slice x.p1.a x.p1.n x.p1.c, .slice x.p2.a x.p2.n x.p2.c, .slice x.p3.a x.p3.n x.p3.c, .slice x.p4.a x.p4.n x.p4.c] 29)) x d ∧ Below w.heap.size w (w.alloc (.cells #[.slice x.p1.a x.p1.n x.p1.c, .slice x.p2.a x.p2.n x.p2.c, .slice x.p3.a x.p3.n x.p3.c, .slice x.p4.a x.p4.n x.p4.c] 29))) := ⟨DBox.new w x, h.below hb0, hb0⟩
  have KC : Hid (∀ W, DRd W x d → Calls Try.prog 37 #[.int .u16 t, .agg #[.slice x.p1.a x.p1.n x.p1.c, .slice x.p2.a x.p2.n x.p2.c, .slice x.p3.a x.p3.n x.p3.c, .slice x.p4.a x.p4.n x.p4.c]] W fun e w' => e = .returned (.int .i64 (checkF t d)) ∧ Hid (Below W.heap.size W w')) := fun W hd => rcheck_any t x d W hd hB
  have KW : Hid (checkF t d = 0 → ∀ W, DRd W x d → Calls Try.prog 38 #[.int .u16 t, .agg #[.slice x.p1.a x.p1.n x.p1.c, .slice x.p2.a x.p2.n x.p2.c, .slice x.p3.a x.p3.n x.p3.c, .slice x.p4.a x.p4.n x.p4.c]] W fun e w' => ∃ v ys, e = .returned v ∧ Hid (Own W.heap.size w' v (writeF t d).length ys ∧ ys.take (writeF t d).length = writeF t d ∧ Below W.heap.size W w')) := fun hc W hd => write_any t x d W hd hc
  clear h hb0 hB
  obtain ⟨⟨a1, n1, k1⟩, ⟨a2, n2, k2⟩, ⟨a3, n3, k3⟩, ⟨a4, n4, k4⟩⟩ := x
  simp only at H KC KW ⊢
  unfold bytesF
  generalize writeF t d = C at *
  generalize checkF t d = q at *
  by_cases hq : q = 0
  · subst hq
    have KW2 := KW.out rfl
    have KW3 : Hid (∀ W, DRd W ⟨⟨a1, n1, k1⟩, ⟨a2, n2, k2⟩, ⟨a3, n3, k3⟩, ⟨a4, n4, k4⟩⟩ d → Calls Try.prog 38 #[.int .u16 t, .agg #[.slice a1 n1 k1, .slice a2 n2 k2, .slice a3 n3 k3, .slice a4 n4 k4]] W fun e w' => ∃ v ys, e = .returned v ∧ Hid (Own W.heap.size w' v C.length ys ∧ ys.take C.length = C ∧ Below W.heap.size W w')) := KW2
    clear KW KW2
    rw [if_pos rfl]
    go_enter Try.func11, Try.ntmps11
    go_upto_region 1 with fail
    generalize (w.alloc (.cells #[.slice a1 n1 k1, .slice a2 n2 k2, .slice a3 n3 k3, .slice a4 n4 k4] 29)) = W1 at *
    obtain ⟨b, hb⟩ : ∃ b, b = w.heap.size := ⟨_, rfl⟩
    rw [← hb] at H ⊢
    have Hb : Hid (b = w.heap.size) := hb
    clear hb
    have c0 := H.out.1.1
    have c1 := H.out.1.2.1
    have c2 := H.out.1.2.2.1
    have c3 := H.out.1.2.2.2.1
    simp only at c0 c1 c2 c3
    go_wp2_with fail
    refine (KC.out W1 H.out.2.1).mono ?_
    rintro e W2 ⟨rfl, H2⟩
    have H3 : Hid (DBox W2 b ⟨⟨a1, n1, k1⟩, ⟨a2, n2, k2⟩, ⟨a3, n3, k3⟩, ⟨a4, n4, k4⟩⟩ ∧ DRd W2 ⟨⟨a1, n1, k1⟩, ⟨a2, n2, k2⟩, ⟨a3, n3, k3⟩, ⟨a4, n4, k4⟩⟩ d ∧ Below w.heap.size w W2) := ⟨H.out.1.below H2.out, H.out.2.1.below H2.out, by have := H.out.2.2; rw [Hb.out] at this; exact this.trans (H2.out.mono this.size)⟩
    clear H H2 c0 c1 c2 c3 KC
    have c0 := H3.out.1.1
    have c1 := H3.out.1.2.1
    have c2 := H3.out.1.2.2.1
    have c3 := H3.out.1.2.2.2.1
    simp only at c0 c1 c2 c3
    go_wp2_with fail
    refine (KW3.out W2 H3.out.2.1).mono ?_
    rintro e W4 ⟨v, ys, rfl, H4⟩
    go_wp2_with fail
    go_ret2
    obtain ⟨h1, h2, h3⟩ := H4.out
    rw [Hb.out]
    exact ⟨v, ys, rfl, own_mono h1 H3.out.2.2.size, h2, H3.out.2.2.trans (h3.mono H3.out.2.2.size)⟩
  · rw [if_neg hq]
    have hq' : (q != 0) = true := by simp [hq]
    clear KW hq
    go_enter Try.func11, Try.ntmps11
    go_upto_region 1 with fail
    generalize (w.alloc (.cells #[.slice a1 n1 k1, .slice a2 n2 k2, .slice a3 n3 k3, .slice a4 n4 k4] 29)) = W1 at *
    obtain ⟨b, hb⟩ : ∃ b, b = w.heap.size := ⟨_, rfl⟩
    rw [← hb] at H ⊢
    have Hb : Hid (b = w.heap.size) := hb
    clear hb
    have c0 := H.out.1.1
    have c1 := H.out.1.2.1
    have c2 := H.out.1.2.2.1
    have c3 := H.out.1.2.2.2.1
    simp only at c0 c1 c2 c3
    go_wp2_with fail
    refine (KC.out W1 H.out.2.1).mono ?_
    rintro e W2 ⟨rfl, H2⟩
    have HB : Hid (Below w.heap.size w W2) := by have := H.out.2.2; rw [Hb.out] at this; exact this.trans (H2.out.mono this.size)
    clear H H2 c0 c1 c2 c3 KC
    go_wp2_with fail
    go_ret2
    rw [Hb.out]
    exact ⟨.slice none 0 0, [], rfl, .inl ⟨rfl, rfl, rfl⟩, rfl, HB.out⟩
end Go.Proofs.Ytdeoembjfdbbkaa
/- Picked out of earlier texts. -/
namespace Go.Proofs.Ytdeoembjfdbbkaa
open Go.ChangeShapes Go.WideShapes Go.ChangeAt Go.RowKit
set_option linter.unusedVariables false
set_option linter.unusedSimpArgs false


set_option maxRecDepth 100000 in
set_option maxHeartbeats 400000 in
theorem refnumber_no (a : Option Addr) (len cap : Nat) (at_ n : Int) (w : World) (hm : cap ≤ 140737488355328) (hc : len ≤ cap)
    (h : at_ < 0 ∨ (0 ≤ at_ ∧ (len : Int) < at_) ∨ (0 ≤ at_ ∧ at_ ≤ (len : Int) ∧ (len : Int) - at_ < n)) :
    Calls Try.prog 98 #[.slice a len cap, .int .i64 at_, .int .i64 n] w fun e w' => e = .returned (.tuple #[.int .u64 0, .bool false]) ∧ w' = w := by
  rcases h with h | ⟨h0, h⟩ | ⟨h0, h1, h⟩
  · go_enter Try.func98, Try.ntmps98
    go_wp2
    go_ret2
    exact ⟨rfl, rfl⟩
  · go_enter Try.func98, Try.ntmps98
    go_wp2
    go_ret2
    exact ⟨rfl, rfl⟩
  · go_enter Try.func98, Try.ntmps98
    go_wp2
    go_ret2
    exact ⟨rfl, rfl⟩
/-- The text lies elsewhere than the reader. -/
def OffM (a : Option Addr) (g : Nat) : Prop := True
/-- The document's reader's block: its bytes, its place, whether it is bad. -/
def MBlk (w : World) (g : Nat) (t : Value) (k : Int) (bad : Bool) : Prop :=
  w.heap[g]? = some (.cells #[t, .int .i64 k, .bool bad] 99 (0, 0))
theorem MBlk.lt {w : World} {g : Nat} {t : Value} {k : Int} {bad : Bool} (h : MBlk w g t k bad) : g < w.heap.size := (Array.getElem?_eq_some_iff.1 h).1
theorem MBlk.c0 {w : World} {g : Nat} {t : Value} {k : Int} {bad : Bool} (h : MBlk w g t k bad) : w.cell? ⟨g, 0, none⟩ = some t := by
  have h' : w.heap[g]? = _ := h
  simp [World.cell?, h']
theorem MBlk.c1 {w : World} {g : Nat} {t : Value} {k : Int} {bad : Bool} (h : MBlk w g t k bad) : w.cell? ⟨g, 1, none⟩ = some (.int .i64 k) := by
  have h' : w.heap[g]? = _ := h
  simp [World.cell?, h']
theorem MBlk.c2 {w : World} {g : Nat} {t : Value} {k : Int} {bad : Bool} (h : MBlk w g t k bad) : w.cell? ⟨g, 2, none⟩ = some (.bool bad) := by
  have h' : w.heap[g]? = _ := h
  simp [World.cell?, h']
theorem MBlk.fz {w : World} {g : Nat} {t : Value} {k : Int} {bad : Bool} (h : MBlk w g t k bad) (i : Nat) : w.frozen? ⟨g, i, none⟩ = false := by
  have h' : w.heap[g]? = _ := h
  simp [World.frozen?, h']
theorem MBlk.same {w w' : World} {g : Nat} {t : Value} {k : Int} {bad : Bool} (h : MBlk w g t k bad) (hb : w'.heap[g]? = w.heap[g]?) : MBlk w' g t k bad := hb.trans h
theorem Own.keep {B : Nat} {w w' : World} {v : Value} {n : Nat} {zs : List Int} (h : Own B w v n zs) (hb : ∀ g, B ≤ g → w'.heap[g]? = w.heap[g]?) : Own B w' v n zs := by
  rcases h with h | ⟨g, h1, h2, h3, h4⟩
  · exact .inl h
  · exact .inr ⟨g, h1, h2, h3.same (hb g h2), h4⟩
theorem Own.mono {B B' : Nat} {w : World} {v : Value} {n : Nat} {zs : List Int} (h : Own B w v n zs) (hb : B' ≤ B) : Own B' w v n zs := by
  rcases h with h | ⟨g, h1, h2, h3⟩
  · exact .inl h
  · exact .inr ⟨g, h1, by omega, h3⟩
theorem reftake_end {w W2 w' : World} {g : Nat} {t v' : Value} {k k' : Int} {n : Nat} {ys qs : List Int} {o : Obj} (hg : g < w.heap.size) (hW : Below w.heap.size w W2 ∧ W2.heap.size = w.heap.size)
    (hO : Own W2.heap.size w' v' n ys) (hT : ys.take n = ([] : List Int).take 0 ++ qs) (hG : (W2.drew.alloc o).grownBy w' (some W2.heap.size)) (hM : MBlk w' g t k false) :
    Own w.heap.size (w'.setCell ⟨g, 1, none⟩ (.int .i64 k')) v' n ys ∧ ys.take n = qs ∧ MBlk (w'.setCell ⟨g, 1, none⟩ (.int .i64 k')) g t k' false ∧ w.grownBy (w'.setCell ⟨g, 1, none⟩ (.int .i64 k')) (some g) := by
  have hsz : (w'.setCell ⟨g, 1, none⟩ (.int .i64 k')).heap.size = w'.heap.size := by simp [World.setCell]
  have hal : (W2.drew.alloc o).heap.size = W2.heap.size + 1 := by simp
  refine ⟨(hO.mono (by omega)).keep fun j hj => Below.heap_setCell _ _ _ j (by show j ≠ g; omega), by simpa using hT, heap_set hM 1 _, ?_⟩
  refine ⟨hG.os.trans hW.1.os, hG.tape.trans hW.1.tape, hG.output.trans hW.1.output, by rw [hsz]; have := hG.size; omega, fun j hj hne => ?_⟩
  rw [Below.heap_setCell _ _ _ j (fun e => hne (by rw [e]))]
  rw [hG.block j (by omega) (fun e => by have := Option.some.inj e; omega)]
  rw [Below.heap_alloc W2.drew o j (by show j < W2.heap.size; omega)]
  exact hW.1.block j hj
set_option maxRecDepth 100000 in
set_option maxHeartbeats 1000000 in
theorem reftake_ok (g : Nat) (b : Option Addr) (len cap k n : Nat) (zs : List Int) (w : World) (hb : MBlk w g (.slice b len cap) k false) (hr : Rd w b zs) (hl : zs.length = len) (hc : len ≤ cap) (hm : len ≤ 140737488355328) (hd : b = none → cap = 0) (ho : OffM b g) (hn : k + n ≤ len) :
    Calls Try.prog 79 #[.pointer (some ⟨g, 0, none⟩), .int .i64 n] w fun e w' => ∃ v ys, e = .returned v ∧ Hid (Own w.heap.size w' v n ys ∧ ys.take n = (zs.drop k).take n ∧ MBlk w' g (.slice b len cap) ((k : Int) + (n : Int)) false ∧ w.grownBy w' (some g)) := by
  have H0 : Hid (MBlk w g (.slice b len cap) k false ∧ Rd w b zs ∧ zs.length = len ∧ (b = none → cap = 0) ∧ OffM b g) := ⟨hb, hr, hl, hd, ho⟩
  have hg := hb.lt
  have c0 := hb.c0
  have c1 := hb.c1
  have c2 := hb.c2
  have f1 := hb.fz 1
  have d1 : decide ((n : Int) < 0) = false := by simp
  have d2 : decide ((len : Int) - (k : Int) < (n : Int)) = false := by simp; omega
  have hw1 : IntKind.i64.wrap ((len : Int) - (k : Int)) = (len : Int) - (k : Int) := by rw [IntKind.wrap_i64]; omega
  clear hb hr hl hd ho
  go_enter Try.func79, Try.ntmps79
  go_wp2_with fail
  go_quiet (fail)
  go_wp2_with fail
  have HW : Hid (MBlk (w.drewN nq) g (.slice b len cap) k false ∧ Rd (w.drewN nq) b zs ∧ Below w.heap.size w (w.drewN nq) ∧ (w.drewN nq).heap.size = w.heap.size) := by
    have hb : Below w.heap.size w (w.drewN nq) := ⟨rfl, rfl, rfl, Nat.le_refl _, fun _ _ => rfl⟩
    exact ⟨H0.out.1.same (hb.block g hg), H0.out.2.1.below hb, hb, rfl⟩
  clear c0 c1 c2 f1 d1 d2 hw1
  generalize w.drewN nq = W2 at *
  have c0 := HW.out.1.c0
  have c1 := HW.out.1.c1
  have hg2 := HW.out.1.lt
  have hgn : ¬ W2.heap.size = g := by omega
  have hw2 : IntKind.i64.wrap ((k : Int) + (n : Int)) = (k : Int) + (n : Int) := by rw [IntKind.wrap_i64]; omega
  have hb1 : (k : Int) + (n : Int) ≤ (cap : Int) := by omega
  have hb2 : (k : Int) ≤ (k : Int) + (n : Int) := by omega
  by_cases hck : cap = k
  · have hn0 : n ≤ 0 := by omega
    obtain rfl : cap = k := hck
    have HC : Hid (∀ W, Rd W b zs → Rd W b ((zs.drop cap).take n)) := fun W hW => hW.cut cap n (by rw [H0.out.2.2.1]; exact hn) (fun h b' o e => absurd h (by omega))
    have HLn : Hid (((zs.drop cap).take n).length = n) := (show _ = _ by simp; have := H0.out.2.2.1; omega)
    go_region_held3 (fun W => W.cell? ⟨g, 0, none⟩ = some (.slice b len cap) ∧ W.cell? ⟨g, 1, none⟩ = some (.int .i64 cap)) (go_keep) (first
      | (refine step_append_blk rfl _ _ rfl W2.heap.size _ 0 [] rfl ?_ _ _ _ ((zs.drop cap).take n) rfl ?_ n ?_ ?_ ?_ ?_ ?_ ?_; exact empty_own W2.drew; exact HC.out _ (HW.out.2.1.drew.below (new_below _ _)); (rw [HLn.out]; omega); omega; exact (fun e => by first | rfl | (have := H0.out.2.2.2.1 e; omega)); omega; simp; intro v' w' ys hO hT hG; have hMB : Hid (MBlk w' g (.slice b len cap) cap false) := HW.out.1.same ((hG.out.block g (by simp; omega) (fun e => hgn (Option.some.inj e).symm)).trans (Below.heap_alloc W2.drew _ g hg2)); have k0 := hMB.out.c0; have k1 := hMB.out.c1))
    have kf := hMB.out.fz 1
    clear k0 c0 c1
    go_wp2
    go_ret
    exact ⟨v', ys, rfl, reftake_end hg ⟨HW.out.2.2.1, HW.out.2.2.2⟩ hO.out hT.out hG.out hMB.out⟩
  · skip
    have HC : Hid (∀ W, Rd W b zs → Rd W (Option.map (fun x => x.add k) b) ((zs.drop k).take n)) := fun W hW => hW.cut k n (by rw [H0.out.2.2.1]; exact hn) (fun h b' o e => by subst e; simp [Addr.add])
    have HLn : Hid (((zs.drop k).take n).length = n) := (show _ = _ by simp; have := H0.out.2.2.1; omega)
    go_region_held3 (fun W => W.cell? ⟨g, 0, none⟩ = some (.slice b len cap) ∧ W.cell? ⟨g, 1, none⟩ = some (.int .i64 k)) (go_keep) (first
      | (refine step_append_blk rfl _ _ rfl W2.heap.size _ 0 [] rfl ?_ _ _ _ ((zs.drop k).take n) rfl ?_ n ?_ ?_ ?_ ?_ ?_ ?_; exact empty_own W2.drew; exact HC.out _ (HW.out.2.1.drew.below (new_below _ _)); (rw [HLn.out]; omega); omega; exact (fun e => by simp at e; have := H0.out.2.2.2.1 e; omega); omega; simp; intro v' w' ys hO hT hG; have hMB : Hid (MBlk w' g (.slice b len cap) k false) := HW.out.1.same ((hG.out.block g (by simp; omega) (fun e => hgn (Option.some.inj e).symm)).trans (Below.heap_alloc W2.drew _ g hg2)); have k0 := hMB.out.c0; have k1 := hMB.out.c1))
    have kf := hMB.out.fz 1
    clear k0 c0 c1
    go_wp2
    go_ret
    exact ⟨v', ys, rfl, reftake_end hg ⟨HW.out.2.2.1, HW.out.2.2.2⟩ hO.out hT.out hG.out hMB.out⟩
theorem refspoilt {w W : World} (g : Nat) (t : Value) (k : Int) (bad : Bool) (hb : MBlk W g t k bad) (hgr : w.grownBy W (some g)) :
    MBlk (((W.setCell ⟨g, 2, none⟩ (.bool true)).setCell ⟨g, 1, none⟩ (.int .i64 0)).setCell ⟨g, 0, none⟩ (.slice none 0 0)) g (.slice none 0 0) 0 true ∧
    w.grownBy (((W.setCell ⟨g, 2, none⟩ (.bool true)).setCell ⟨g, 1, none⟩ (.int .i64 0)).setCell ⟨g, 0, none⟩ (.slice none 0 0)) (some g) := by
  have h4 := heap_set (heap_set (heap_set hb 2 (.bool true)) 1 (.int .i64 0)) 0 (.slice none 0 0)
  refine ⟨h4.trans (by simp), hgr.os, hgr.tape, hgr.output, ?_, fun j hj hne => ?_⟩
  · have := hgr.size
    simpa [World.setCell] using this
  · have hj' : j ≠ g := fun e => hne (by rw [e])
    rw [Below.heap_setCell _ _ _ j hj', Below.heap_setCell _ _ _ j hj', Below.heap_setCell _ _ _ j hj']
    exact hgr.block j hj hne
set_option maxRecDepth 100000 in
set_option maxHeartbeats 1000000 in
theorem reftake_neg (g : Nat) (b : Option Addr) (len cap : Nat) (k n : Int) (w : World) (hb : MBlk w g (.slice b len cap) k false) (hn : n < 0) :
    Calls Try.prog 79 #[.pointer (some ⟨g, 0, none⟩), .int .i64 n] w fun e w' => e = .returned (.slice none 0 0) ∧ Hid (MBlk w' g (.slice none 0 0) 0 true ∧ w.grownBy w' (some g)) := by
  have H0 : Hid (MBlk w g (.slice b len cap) k false) := hb
  have hg := hb.lt
  have c0 := hb.c0
  have c1 := hb.c1
  have c2 := hb.c2
  have d1 : decide (n < 0) = true := by simpa using hn
  clear hb
  go_enter Try.func79, Try.ntmps79
  go_wp2_with fail
  go_quiet (fail)
  have HW : Hid (MBlk (w.drewN nq) g (.slice b len cap) k false ∧ w.grownBy (w.drewN nq) (some g)) := ⟨H0.out, rfl, rfl, rfl, Nat.le_refl _, fun _ _ _ => rfl⟩
  clear c0 c1 c2
  generalize w.drewN nq = W2 at *
  have c0 := HW.out.1.c0
  have c1 := HW.out.1.c1
  have c2 := HW.out.1.c2
  have f0 := HW.out.1.fz 0
  have f1 := HW.out.1.fz 1
  have f2 := HW.out.1.fz 2
  go_wp2
  go_ret
  exact ⟨rfl, refspoilt g _ _ _ HW.out.1 HW.out.2⟩
set_option maxRecDepth 100000 in
set_option maxHeartbeats 1000000 in
theorem reftake_far (g : Nat) (b : Option Addr) (len cap : Nat) (k n : Int) (w : World) (hb : MBlk w g (.slice b len cap) k false) (hk : 0 ≤ k ∧ k ≤ len) (hm : len ≤ 140737488355328) (h0 : 0 ≤ n) (hn : (len : Int) - k < n) :
    Calls Try.prog 79 #[.pointer (some ⟨g, 0, none⟩), .int .i64 n] w fun e w' => e = .returned (.slice none 0 0) ∧ Hid (MBlk w' g (.slice none 0 0) 0 true ∧ w.grownBy w' (some g)) := by
  have H0 : Hid (MBlk w g (.slice b len cap) k false) := hb
  have hg := hb.lt
  have c0 := hb.c0
  have c1 := hb.c1
  have c2 := hb.c2
  have d1 : decide (n < 0) = false := by simp; omega
  have hw1 : IntKind.i64.wrap ((len : Int) - k) = (len : Int) - k := by rw [IntKind.wrap_i64]; omega
  have d2 : decide ((len : Int) - k < n) = true := by simpa using hn
  clear hb
  go_enter Try.func79, Try.ntmps79
  go_wp2_with fail
  go_quiet (fail)
  have HW : Hid (MBlk (w.drewN nq) g (.slice b len cap) k false ∧ w.grownBy (w.drewN nq) (some g)) := ⟨H0.out, rfl, rfl, rfl, Nat.le_refl _, fun _ _ _ => rfl⟩
  clear c0 c1 c2
  generalize w.drewN nq = W2 at *
  have c0 := HW.out.1.c0
  have c1 := HW.out.1.c1
  have c2 := HW.out.1.c2
  have f0 := HW.out.1.fz 0
  have f1 := HW.out.1.fz 1
  have f2 := HW.out.1.fz 2
  go_wp2
  go_ret
  exact ⟨rfl, refspoilt g _ _ _ HW.out.1 HW.out.2⟩
set_option maxRecDepth 100000 in
set_option maxHeartbeats 1000000 in
theorem reftake_isbad (g : Nat) (b : Option Addr) (len cap : Nat) (k n : Int) (w : World) (hb : MBlk w g (.slice b len cap) k true)  :
    Calls Try.prog 79 #[.pointer (some ⟨g, 0, none⟩), .int .i64 n] w fun e w' => e = .returned (.slice none 0 0) ∧ Hid (MBlk w' g (.slice none 0 0) 0 true ∧ w.grownBy w' (some g)) := by
  have H0 : Hid (MBlk w g (.slice b len cap) k true) := hb
  have hg := hb.lt
  have c0 := hb.c0
  have c1 := hb.c1
  have c2 := hb.c2
  clear hb
  go_enter Try.func79, Try.ntmps79
  go_wp2_with fail
  go_quiet (fail)
  have HW : Hid (MBlk (w.drewN nq) g (.slice b len cap) k true ∧ w.grownBy (w.drewN nq) (some g)) := ⟨H0.out, rfl, rfl, rfl, Nat.le_refl _, fun _ _ _ => rfl⟩
  clear c0 c1 c2
  generalize w.drewN nq = W2 at *
  have c0 := HW.out.1.c0
  have c1 := HW.out.1.c1
  have c2 := HW.out.1.c2
  have f0 := HW.out.1.fz 0
  have f1 := HW.out.1.fz 1
  have f2 := HW.out.1.fz 2
  go_wp2
  go_ret
  exact ⟨rfl, refspoilt g _ _ _ HW.out.1 HW.out.2⟩
set_option maxRecDepth 100000 in
set_option maxHeartbeats 1000000 in
theorem refjump_ok (g : Nat) (b : Option Addr) (len cap : Nat) (k n : Int) (w : World) (hb : MBlk w g (.slice b len cap) k false) (h0 : 0 ≤ n) (hn : n ≤ len) :
    Calls Try.prog 97 #[.pointer (some ⟨g, 0, none⟩), .int .i64 n] w fun e w' => e = .returned (.tuple #[]) ∧ Hid (MBlk w' g (.slice b len cap) n false ∧ w.grownBy w' (some g)) := by
  have H0 : Hid (MBlk w g (.slice b len cap) k false) := hb
  have hg := hb.lt
  have c0 := hb.c0
  have c1 := hb.c1
  have c2 := hb.c2
  have f0 := hb.fz 0
  have f1 := hb.fz 1
  have f2 := hb.fz 2
  clear hb
  go_enter Try.func97, Try.ntmps97
  go_wp2
  go_end0
  exact ⟨rfl, heap_set H0.out 1 _, rfl, rfl, rfl, by simp [World.setCell], fun j hj hne => Below.heap_setCell _ _ _ j (fun e => hne (by rw [e]))⟩
set_option maxRecDepth 100000 in
set_option maxHeartbeats 1000000 in
theorem refjump_neg (g : Nat) (b : Option Addr) (len cap : Nat) (k n : Int) (w : World) (hb : MBlk w g (.slice b len cap) k false) (hn : n < 0) :
    Calls Try.prog 97 #[.pointer (some ⟨g, 0, none⟩), .int .i64 n] w fun e w' => e = .returned (.tuple #[]) ∧ Hid (MBlk w' g (.slice none 0 0) 0 true ∧ w.grownBy w' (some g)) := by
  have H0 : Hid (MBlk w g (.slice b len cap) k false) := hb
  have hg := hb.lt
  have c0 := hb.c0
  have c1 := hb.c1
  have c2 := hb.c2
  have f0 := hb.fz 0
  have f1 := hb.fz 1
  have f2 := hb.fz 2
  clear hb
  go_enter Try.func97, Try.ntmps97
  go_wp2
  exact bodyPost_ret (v := .tuple #[]) (by simp [results, Try.results82, go_sem]) rfl ⟨rfl, refspoilt g _ _ _ H0.out (World.grownBy.refl _ _)⟩
set_option maxRecDepth 100000 in
set_option maxHeartbeats 1000000 in
theorem refjump_far (g : Nat) (b : Option Addr) (len cap : Nat) (k n : Int) (w : World) (hb : MBlk w g (.slice b len cap) k false) (h0 : 0 ≤ n) (hn : (len : Int) < n) :
    Calls Try.prog 97 #[.pointer (some ⟨g, 0, none⟩), .int .i64 n] w fun e w' => e = .returned (.tuple #[]) ∧ Hid (MBlk w' g (.slice none 0 0) 0 true ∧ w.grownBy w' (some g)) := by
  have H0 : Hid (MBlk w g (.slice b len cap) k false) := hb
  have hg := hb.lt
  have c0 := hb.c0
  have c1 := hb.c1
  have c2 := hb.c2
  have f0 := hb.fz 0
  have f1 := hb.fz 1
  have f2 := hb.fz 2
  clear hb
  go_enter Try.func97, Try.ntmps97
  go_wp2
  exact bodyPost_ret (v := .tuple #[]) (by simp [results, Try.results82, go_sem]) rfl ⟨rfl, refspoilt g _ _ _ H0.out (World.grownBy.refl _ _)⟩
set_option maxRecDepth 100000 in
set_option maxHeartbeats 1000000 in
theorem refjump_isbad (g : Nat) (b : Option Addr) (len cap : Nat) (k n : Int) (w : World) (hb : MBlk w g (.slice b len cap) k true)  :
    Calls Try.prog 97 #[.pointer (some ⟨g, 0, none⟩), .int .i64 n] w fun e w' => e = .returned (.tuple #[]) ∧ Hid (MBlk w' g (.slice none 0 0) 0 true ∧ w.grownBy w' (some g)) := by
  have H0 : Hid (MBlk w g (.slice b len cap) k true) := hb
  have hg := hb.lt
  have c0 := hb.c0
  have c1 := hb.c1
  have c2 := hb.c2
  have f0 := hb.fz 0
  have f1 := hb.fz 1
  have f2 := hb.fz 2
  clear hb
  go_enter Try.func97, Try.ntmps97
  go_wp2
  exact bodyPost_ret (v := .tuple #[]) (by simp [results, Try.results82, go_sem]) rfl ⟨rfl, refspoilt g _ _ _ H0.out (World.grownBy.refl _ _)⟩
/-- The document's reader's state. -/
def MSt (w : World) (g : Nat) (b : Option Addr) (len cap : Nat) : Option Nat → Prop
  | some k => MBlk w g (.slice b len cap) k false ∧ k ≤ len
  | none => MBlk w g (.slice none 0 0) 0 true
theorem MSt.le {w : World} {g : Nat} {a : Option Addr} {len cap : Nat} {st : Option Nat} (h : MSt w g a len cap st) : ∀ k, st = some k → k ≤ len := by
  rintro k rfl; exact h.2
theorem MSt.lt {w : World} {g : Nat} {a : Option Addr} {len cap : Nat} {st : Option Nat} (h : MSt w g a len cap st) : g < w.heap.size := by
  cases st with
  | none => exact MBlk.lt h
  | some k => exact MBlk.lt h.1
theorem MSt.same {w w' : World} {g : Nat} {a : Option Addr} {len cap : Nat} {st : Option Nat} (h : MSt w g a len cap st) (hb : w'.heap[g]? = w.heap[g]?) : MSt w' g a len cap st := by
  cases st with
  | none => exact MBlk.same h hb
  | some k => exact ⟨MBlk.same h.1 hb, h.2⟩
theorem reftake_any (g : Nat) (b : Option Addr) (len cap : Nat) (zs : List Int) (st : Option Nat) (n : Int) (w : World) (hs : MSt w g b len cap st) (hr : Rd w b zs) (hl : zs.length = len) (hc : len ≤ cap) (hm : len ≤ 140737488355328) (hd : b = none → cap = 0) (ho : OffM b g) :
    Calls Try.prog 79 #[.pointer (some ⟨g, 0, none⟩), .int .i64 n] w fun e w' => ∃ v ys, e = .returned v ∧ Hid (Own w.heap.size w' v (tk zs st n).length ys ∧ ys.take (tk zs st n).length = tk zs st n ∧ MSt w' g b len cap (mv len st n) ∧ w.grownBy w' (some g)) := by
  cases st with
  | none =>
    refine (reftake_isbad g none 0 0 0 n w hs).mono ?_
    rintro e w' ⟨rfl, H⟩
    exact ⟨_, [], rfl, .inl ⟨rfl, rfl, rfl⟩, rfl, H.out.1, H.out.2⟩
  | some k =>
    have hkl := hs.2
    by_cases h : 0 ≤ n ∧ k + n ≤ len
    · obtain ⟨m, rfl⟩ := Int.eq_ofNat_of_zero_le h.1
      have hkm : k + m ≤ len := by omega
      have e1 : mv len (some k) m = some (k + m) := by simp only [mv]; rw [if_pos h]; rfl
      have e2 : tk zs (some k) m = (zs.drop k).take m := by simp only [tk]; rw [if_pos (by rw [hl]; exact h)]; rfl
      have e3 : ((zs.drop k).take m).length = m := by simp; omega
      rw [e1, e2, e3]
      refine (reftake_ok g b len cap k m zs w hs.1 hr hl hc hm hd ho hkm).mono ?_
      rintro e w' ⟨v, ys, rfl, H⟩
      obtain ⟨h1, h2, h3, h4⟩ := H.out
      exact ⟨v, ys, rfl, h1, h2, ⟨by simpa using h3, hkm⟩, h4⟩
    · have e1 : mv len (some k) n = none := by simp only [mv]; rw [if_neg h]
      have e2 : tk zs (some k) n = [] := by simp only [tk]; rw [if_neg (by rw [hl]; exact h)]
      rw [e1, e2]
      by_cases h0 : n < 0
      · refine (reftake_neg g b len cap k n w hs.1 h0).mono ?_
        rintro e w' ⟨rfl, H⟩
        exact ⟨_, [], rfl, .inl ⟨rfl, rfl, rfl⟩, rfl, H.out.1, H.out.2⟩
      · refine (reftake_far g b len cap k n w hs.1 ⟨by omega, by omega⟩ (by omega) (by omega) (by omega)).mono ?_
        rintro e w' ⟨rfl, H⟩
        exact ⟨_, [], rfl, .inl ⟨rfl, rfl, rfl⟩, rfl, H.out.1, H.out.2⟩
theorem refjump_any (g : Nat) (b : Option Addr) (len cap : Nat) (st : Option Nat) (n : Int) (w : World) (hs : MSt w g b len cap st) :
    Calls Try.prog 97 #[.pointer (some ⟨g, 0, none⟩), .int .i64 n] w fun e w' => e = .returned (.tuple #[]) ∧ Hid (MSt w' g b len cap (jm len st n) ∧ w.grownBy w' (some g)) := by
  cases st with
  | none =>
    refine (refjump_isbad g none 0 0 0 n w hs).mono ?_
    rintro e w' ⟨rfl, H⟩
    exact ⟨rfl, H.out.1, H.out.2⟩
  | some k =>
    by_cases h : 0 ≤ n ∧ n ≤ len
    · obtain ⟨m, rfl⟩ := Int.eq_ofNat_of_zero_le h.1
      have e1 : jm len (some k) m = some m := by simp only [jm]; rw [if_pos h]; rfl
      rw [e1]
      refine (refjump_ok g b len cap k m w hs.1 h.1 h.2).mono ?_
      rintro e w' ⟨rfl, H⟩
      exact ⟨rfl, ⟨H.out.1, by omega⟩, H.out.2⟩
    · have e1 : jm len (some k) n = none := by simp only [jm]; rw [if_neg h]
      rw [e1]
      by_cases h0 : n < 0
      · refine (refjump_neg g b len cap k n w hs.1 h0).mono ?_
        rintro e w' ⟨rfl, H⟩
        exact ⟨rfl, H.out.1, H.out.2⟩
      · refine (refjump_far g b len cap k n w hs.1 (by omega) (by omega)).mono ?_
        rintro e w' ⟨rfl, H⟩
        exact ⟨rfl, H.out.1, H.out.2⟩
set_option maxRecDepth 100000 in
set_option maxHeartbeats 400000 in
theorem refnumber_in (a : Option Addr) (len cap at_ n : Nat) (zs : List Int) (w : World) (hr : Rd w a zs) (hl : zs.length = len) (hm : len ≤ 140737488355328) (hn : at_ + n ≤ len) (h4 : n ≤ 4) :
    Calls Try.prog 98 #[.slice a len cap, .int .i64 at_, .int .i64 n] w fun e w' => e = .returned (.tuple #[.int .u64 (val ((zs.drop at_).take n)), .bool true]) ∧ w' = w := by
  have HL : Hid (zs.length = len) := hl
  have HR : Hid (Rd w a zs) := hr
  clear hl hr
  have h1 : ¬ (at_ : Int) < 0 := by omega
  have h2 : (at_ : Int) ≤ (len : Int) := by omega
  have h3 : (n : Int) ≤ (len : Int) - (at_ : Int) := by omega
  have h3' : decide ((len : Int) - (at_ : Int) < (n : Int)) = false := by simp; omega
  go_enter Try.func98, Try.ntmps98
  go_wp2
  go_loop [8, 9] (fun v i => ∃ k : Nat, k ≤ n ∧ i = .int .i64 k ∧ v = .int .u64 (val ((zs.drop at_).take k))) (fun _ i => n - (intOf i).toNat)
  case atStart => exact ⟨0, Nat.zero_le _, rfl, rfl⟩
  case round =>
    obtain ⟨k, hk, rfl, rfl⟩ := hrel
    by_cases hlt : k < n
    · rcases HR.out.1 with e1 | ⟨b, o, rfl, e1, e2⟩
      · have := HL.out; subst e1; simp at this; omega
      · have hcc := e2 (at_ + k) (by rw [HL.out]; omega)
        have hb := HR.out.bd (at_ + k)
        have hv := val_small (zs.drop at_) (fun z hz => HR.out.2 z (List.mem_of_mem_drop hz)) k (by omega)
        clear e2
        have hlt' : (k : Int) < (n : Int) := by omega
        have hlt2 : (at_ : Int) + (k : Int) < (len : Int) := by omega
        go_wp2
        go_round
        case rel =>
          refine ⟨k + 1, by omega, by go_num, ?_⟩
          rw [take_snoc (zs.drop at_) k (by rw [List.length_drop, HL.out]; omega), val_snoc]
          have e : (zs.drop at_).getD k 0 = zs.getD (at_ + k) 0 := by simp [List.getD_eq_getElem?_getD, List.getElem?_drop]
          rw [e, ← List.getD_eq_getElem?_getD, u64_step _ _ hv.1 hv.2 hb.1 hb.2]
        case measure => simp [intOf]; omega
    · obtain rfl : k = n := by omega
      go_wp2
      go_ret2
      exact ⟨rfl, rfl⟩
theorem tk_full (zs : List Int) (st : Option Nat) (n : Nat) : (tk zs st n).length = n ∨ tk zs st n = [] := by
  unfold tk
  split
  · split
    · rename_i k h
      left
      rw [Int.toNat_natCast, List.length_take, List.length_drop]
      omega
    · right; rfl
  · right; rfl
set_option maxRecDepth 100000 in
set_option maxHeartbeats 400000 in
theorem refnumber_zero (a : Option Addr) (cap : Nat) (n : Int) (w : World) (h : 0 < n) :
    Calls Try.prog 98 #[.slice a 0 cap, .int .i64 0, .int .i64 n] w fun e w' => e = .returned (.tuple #[.int .u64 0, .bool false]) ∧ w' = w := by
  go_enter Try.func98, Try.ntmps98
  go_wp2
  go_ret2
  exact ⟨rfl, rfl⟩
/-- The document's number of n bytes, at most four. -/
theorem refnum_any (g : Nat) (b : Option Addr) (len cap : Nat) (zs : List Int) (st : Option Nat) (n : Nat) (hn4 : n ≤ 4) (hn1 : 1 ≤ n) (w : World) (hs : MSt w g b len cap st) (hr : Rd w b zs) (hl : zs.length = len) (hc : len ≤ cap) (hm : len ≤ 140737488355328) (hd : b = none → cap = 0) (ho : OffM b g) :
    Calls Try.prog 78 #[.pointer (some ⟨g, 0, none⟩), .int .i64 n] w fun e w' => e = .returned (.int .u64 (val (tk zs st n))) ∧ Hid (MSt w' g b len cap (mv len st n) ∧ w.grownBy w' (some g)) := by
  have H0 : Hid (MSt w g b len cap st ∧ Rd w b zs ∧ zs.length = len ∧ (b = none → cap = 0) ∧ OffM b g) := ⟨hs, hr, hl, hd, ho⟩
  clear hs hr hl hd ho
  go_enter Try.func78, Try.ntmps78
  go_wp2_with fail
  refine (reftake_any g b len cap zs st n _ H0.out.1 H0.out.2.1 H0.out.2.2.1 hc hm H0.out.2.2.2.1 H0.out.2.2.2.2).mono ?_
  rintro e w1 ⟨v, ys, rfl, H1⟩
  obtain ⟨p1, p2, p3, p4⟩ := H1.out
  have hle : (tk zs st n).length ≤ n := tk_len zs st n
  rcases p1 with ⟨rfl, q1, q2⟩ | ⟨g', rfl, q1, q2, q3, q4⟩
  · have HT : Hid (tk zs st n = []) := List.eq_nil_of_length_eq_zero q1
    clear p2 p3 p4 q1 q2 hle
    go_wp2_with fail
    refine (refnumber_no none 0 0 0 n _ (by omega) (by omega) (by omega)).mono ?_
    rintro e w2 ⟨rfl, rfl⟩
    go_wp2
    go_ret
    exact ⟨by rw [HT.out]; rfl, H1.out.2.2.1, H1.out.2.2.2⟩
  · obtain ⟨m, hm1⟩ : ∃ m, (tk zs st n).length = m := ⟨_, rfl⟩
    have hrd := q2.rd (tk zs st n).length
    rw [p2] at hrd
    have HX : Hid (Calls Try.prog 98 #[.slice (some ⟨g', 0, none⟩) m ys.length, .int .i64 0, .int .i64 n] w1 fun e w' => (∃ ok, e = .returned (.tuple #[.int .u64 (val (tk zs st n)), .bool ok])) ∧ w' = w1) := by
      rcases tk_full zs st n with hf | hf
      · have := refnumber_in (some ⟨g', 0, none⟩) m ys.length 0 n (tk zs st n) w1 hrd hm1 (by omega) (by omega) hn4
        refine this.mono ?_
        rintro e w2 ⟨rfl, rfl⟩
        rw [List.drop_zero, List.take_of_length_le (by omega)]
        exact ⟨⟨_, rfl⟩, rfl⟩
      · have hm0 : m = 0 := by rw [← hm1, hf]; rfl
        rw [hm0, hf]
        refine (refnumber_zero (some ⟨g', 0, none⟩) ys.length n w1 (by omega)).mono ?_
        rintro e w2 ⟨rfl, rfl⟩
        exact ⟨⟨_, rfl⟩, rfl⟩
    rw [hm1]
    clear p2 p3 p4 q1 q2 q3 q4 hle hrd
    go_wp2_with fail
    refine HX.out.mono ?_
    rintro e w2 ⟨⟨ok, rfl⟩, rfl⟩
    go_wp2
    go_ret
    exact ⟨rfl, H1.out.2.2.1, H1.out.2.2.2⟩
end Go.Proofs.Ytdeoembjfdbbkaa
/- Data that are made bit by bit, beside a reader. -/
namespace Go.Proofs.Ytdeoembjfdbbkaa
open Go.ChangeShapes Go.WideShapes Go.ChangeAt Go.RowKit
set_option linter.unusedVariables false
set_option linter.unusedSimpArgs false


/-- What stays of the world Wb: all but the blocks g and D. -/
structure Kp (g D : Nat) (Wb W : World) : Prop where
  os : W.os = Wb.os
  tape : W.tape = Wb.tape
  output : W.output = Wb.output
  size : Wb.heap.size ≤ W.heap.size
  block : ∀ j, j < Wb.heap.size → j ≠ g → j ≠ D → W.heap[j]? = Wb.heap[j]?
theorem Kp.refl (g D : Nat) (W : World) : Kp g D W W := ⟨rfl, rfl, rfl, Nat.le_refl _, fun _ _ _ _ => rfl⟩
theorem Kp.go {g D : Nat} {Wb W W' : World} (h : Kp g D Wb W) (hb : Below W.heap.size W W') : Kp g D Wb W' :=
  ⟨hb.os.trans h.os, hb.tape.trans h.tape, hb.output.trans h.output, Nat.le_trans h.size hb.size, fun j hj h1 h2 => (hb.block j (Nat.lt_of_lt_of_le hj h.size)).trans (h.block j hj h1 h2)⟩
theorem Kp.own {g D : Nat} {Wb W W' : World} {o : Option Nat} (h : Kp g D Wb W) (hg : W.grownBy W' o) (ho : ∀ j, o = some j → Wb.heap.size ≤ j) : Kp g D Wb W' :=
  ⟨hg.os.trans h.os, hg.tape.trans h.tape, hg.output.trans h.output, Nat.le_trans h.size hg.size, fun j hj h1 h2 => (hg.block j (Nat.lt_of_lt_of_le hj h.size) (fun e => by have := ho j e.symm; omega)).trans (h.block j hj h1 h2)⟩
theorem Kp.rd {g D : Nat} {Wb W W' : World} (h : Kp g D Wb W) (hg : W.grownBy W' (some g)) : Kp g D Wb W' :=
  ⟨hg.os.trans h.os, hg.tape.trans h.tape, hg.output.trans h.output, Nat.le_trans h.size hg.size, fun j hj h1 h2 => (hg.block j (Nat.lt_of_lt_of_le hj h.size) (fun e => h1 (Option.some.inj e))).trans (h.block j hj h1 h2)⟩
theorem Kp.set {g D : Nat} {Wb W : World} (h : Kp g D Wb W) (i : Nat) (v : Value) : Kp g D Wb (W.setCell ⟨D, i, none⟩ v) :=
  ⟨h.os, h.tape, h.output, by simp [World.setCell]; exact h.size, fun j hj h1 h2 => (Below.heap_setCell _ _ _ j h2).trans (h.block j hj h1 h2)⟩
theorem Kp.below {g D : Nat} {w Wb W : World} {B : Nat} (h : Kp g D Wb W) (hb : Below B w Wb) (hB : B ≤ Wb.heap.size) (h1 : B ≤ g) (h2 : B ≤ D) : Below B w W :=
  ⟨h.os.trans hb.os, h.tape.trans hb.tape, h.output.trans hb.output, Nat.le_trans hb.size h.size, fun j hj => (h.block j (by omega) (by omega) (by omega)).trans (hb.block j hj)⟩
theorem Kp.trans {g D : Nat} {Wa Wb W : World} (h : Kp g D Wa Wb) (h' : Kp g D Wb W) : Kp g D Wa W :=
  ⟨h'.os.trans h.os, h'.tape.trans h.tape, h'.output.trans h.output, Nat.le_trans h.size h'.size, fun j hj h1 h2 => (h'.block j (Nat.lt_of_lt_of_le hj h.size) h1 h2).trans (h.block j hj h1 h2)⟩
theorem RdV.of_blocks {w w' : World} {a : Option Addr} {xs : List Value} (h : RdV w a xs) (hs : w.heap.size ≤ w'.heap.size) (hb : ∀ b o, a = some ⟨b, o, none⟩ → w'.heap[b]? = w.heap[b]?) : RdV w' a xs := by
  rcases h with h | ⟨b, o, h1, h2, h3⟩
  · exact .inl h
  · refine .inr ⟨b, o, h1, Nat.lt_of_lt_of_le h2 hs, fun i hi => ?_⟩
    rw [← h3 i hi]
    exact World.cell?_of_block (hb b o h1)
theorem TRd.of_blocks {w w' : World} {s : Sl} {ss : List ByteArray} (h : TRd w s ss) (hs : w.heap.size ≤ w'.heap.size) (hb : ∀ b o, s.a = some ⟨b, o, none⟩ → w'.heap[b]? = w.heap[b]?) : TRd w' s ss :=
  ⟨RdV.of_blocks h.rd hs hb, h.len, h.cap, h.nil, h.z63⟩
/-- Data's box. -/
def DBlk (w : World) (D : Nat) (x : DA) : Prop := w.heap[D]? = some (.cells #[.slice x.p1.a x.p1.n x.p1.c, .slice x.p2.a x.p2.n x.p2.c, .slice x.p3.a x.p3.n x.p3.c, .slice x.p4.a x.p4.n x.p4.c] 29 (0, 0))
theorem DBlk.lt {w : World} {D : Nat} {x : DA} (h : DBlk w D x) : D < w.heap.size := (Array.getElem?_eq_some_iff.1 h).1
theorem DBlk.same {w w' : World} {D : Nat} {x : DA} (h : DBlk w D x) (hb : w'.heap[D]? = w.heap[D]?) : DBlk w' D x := hb.trans h
theorem DBlk.box {w : World} {D : Nat} {x : DA} (h : DBlk w D x) : DBox w D x := by
  have h' : w.heap[D]? = _ := h
  refine ⟨?_, ?_, ?_, ?_, h.lt⟩ <;> simp [World.cell?, h']
theorem DBlk.fz {w : World} {D : Nat} {x : DA} (h : DBlk w D x) (i : Nat) : w.frozen? ⟨D, i, none⟩ = false := by
  have h' : w.heap[D]? = _ := h
  simp [World.frozen?, h']
theorem DBlk.set0 {w : World} {D : Nat} {x : DA} (h : DBlk w D x) (s : Sl) : DBlk (w.setCell ⟨D, 0, none⟩ (.slice s.a s.n s.c)) D ⟨s, x.p2, x.p3, x.p4⟩ := (heap_set h 0 _).trans (by simp)
theorem DBlk.set1 {w : World} {D : Nat} {x : DA} (h : DBlk w D x) (s : Sl) : DBlk (w.setCell ⟨D, 1, none⟩ (.slice s.a s.n s.c)) D ⟨x.p1, s, x.p3, x.p4⟩ := (heap_set h 1 _).trans (by simp)
theorem DBlk.set2 {w : World} {D : Nat} {x : DA} (h : DBlk w D x) (s : Sl) : DBlk (w.setCell ⟨D, 2, none⟩ (.slice s.a s.n s.c)) D ⟨x.p1, x.p2, s, x.p4⟩ := (heap_set h 2 _).trans (by simp)
theorem DBlk.set3 {w : World} {D : Nat} {x : DA} (h : DBlk w D x) (s : Sl) : DBlk (w.setCell ⟨D, 3, none⟩ (.slice s.a s.n s.c)) D ⟨x.p1, x.p2, x.p3, s⟩ := (heap_set h 3 _).trans (by simp)
/-- A name of one's own. -/
def Own1 (B : Nat) (w : World) (s : Sl) (nm : List ByteArray) : Prop := ∃ ys, OwnT B w (.slice s.a s.n s.c) nm.length ys 1000000000000 ∧ ys.take nm.length = nm
theorem Own1.keep {B : Nat} {w w' : World} {s : Sl} {nm : List ByteArray} (h : Own1 B w s nm) (hb : ∀ j, B ≤ j → j < w.heap.size → (∃ zs, BlkV w j 9 zs) → w'.heap[j]? = w.heap[j]?) : Own1 B w' s nm := by
  obtain ⟨ys, ⟨h1, h2⟩, h3⟩ := h
  refine ⟨ys, ⟨?_, h2⟩, h3⟩
  rcases h1 with h1 | ⟨g, e, hg, hblk, hn⟩
  · exact .inl h1
  · exact .inr ⟨g, e, hg, hblk.same (hb g hg hblk.lt ⟨_, hblk⟩), hn⟩
theorem Own1.rd {B : Nat} {w : World} {s : Sl} {nm : List ByteArray} (h : Own1 B w s nm) : TRd w s nm := by
  obtain ⟨ys, h1, h3⟩ := h
  obtain ⟨ao, e, hnil⟩ := h1.shape
  have hle := h1.le
  obtain ⟨sa, sn, sc⟩ := s
  simp only at e h1
  injection e with e1 e2 e3
  subst e1 e2 e3
  have hrd := h1.rd nm.length
  rw [h3] at hrd
  refine ⟨hrd, rfl, ⟨hle.1, by have := hle.2; simp only [maxLen] at this; exact this⟩, hnil, fun x hx => ?_⟩
  have : x ∈ ys := by rw [← h3] at hx; exact List.mem_of_mem_take hx
  have := h1.2 x this
  omega
/-- A list of names of one's own, from the block B on. -/
def OwnN (B : Nat) (w : World) (v : Value) (nss : List (List ByteArray)) : Prop :=
  ∃ xs, OwnV B w 53 v nss.length xs ∧ ∀ i (hi : i < nss.length), ∃ s : Sl, xs[i]? = some (.slice s.a s.n s.c) ∧ Own1 B w s nss[i]
theorem OwnN.nil (B : Nat) (w : World) : OwnN B w (.slice none 0 0) [] := ⟨[], OwnV.nil B w 53, fun i hi => absurd hi (by simp)⟩
theorem OwnN.keep {B : Nat} {w w' : World} {v : Value} {nss : List (List ByteArray)} (h : OwnN B w v nss) (hb : ∀ j, B ≤ j → j < w.heap.size → w'.heap[j]? = w.heap[j]?) : OwnN B w' v nss := by
  obtain ⟨xs, h1, h2⟩ := h
  refine ⟨xs, h1.keep (fun j e hj => hb j (h1.lt j e) hj), fun i hi => ?_⟩
  obtain ⟨s, e1, e2⟩ := h2 i hi
  exact ⟨s, e1, e2.keep (fun j h1 h2 _ => hb j h1 h2)⟩
theorem OwnN.shape {B : Nat} {w : World} {v : Value} {nss : List (List ByteArray)} (h : OwnN B w v nss) : ∃ s : Sl, v = .slice s.a s.n s.c := by
  obtain ⟨xs, h1, _⟩ := h
  obtain ⟨ao, rfl, _⟩ := h1.shape
  exact ⟨⟨ao, nss.length, xs.length⟩, rfl⟩
theorem OwnN.rd {B : Nat} {w : World} {s : Sl} {nss : List (List ByteArray)} (h : OwnN B w (.slice s.a s.n s.c) nss) : NRd w s nss := by
  obtain ⟨a, n, c⟩ := s
  obtain ⟨xs, h1, h2⟩ := h
  rcases h1 with ⟨e, e0, rfl⟩ | ⟨g, e, hg, hblk, hn, hm⟩
  · injection e with e1 e2 e3
    simp only at e1 e2 e3
    subst e1 e2 e3
    exact ⟨.inl (List.eq_nil_of_length_eq_zero e0), e0, ⟨Nat.le_refl _, Nat.zero_le _⟩, fun _ => rfl⟩
  · injection e with e1 e2 e3
    simp only at e1 e2 e3
    subst e1 e2 e3
    refine ⟨.inr ⟨g, 0, rfl, hblk.lt, fun i hi => ?_⟩, rfl, ⟨hn, by simp only [maxLen] at hm; exact hm⟩, by simp⟩
    obtain ⟨s, e1, e2⟩ := h2 i hi
    refine ⟨s, ?_, e2.rd⟩
    rw [Nat.zero_add, hblk.cell i (by omega)]
    rw [List.getElem?_eq_getElem (by omega)] at e1
    exact e1
theorem tyNs : ElemTy Try.prog 24 53 (.slice none 0 0) 24 := ⟨Try.underlying24, by kernel_rfl, rfl⟩
/-- A name appended. -/
theorem wp_names {w : World} {ops : Array Oper} {rest : List Oper} {o : Oper} {a : Act} {Q : Exit → Act → World → Prop} (hgd : o.guard = none) (s x : Operand)
    (ho : o.op = .call { callee := .builtin .append, args := #[s, x], argTypes := #[24, 24] }) (B : Nat) (v : Value) (nss : List (List ByteArray)) (hs : a.eval s = v) (hown : OwnN B w v nss)
    (ao : Addr) (hx : a.eval x = .slice (some ao) 1 1) (t : Sl) (nm : List ByteArray) (hr : RdV w (some ao) [.slice t.a t.n t.c]) (ht : Own1 B w t nm) (hn : nss.length ≤ 1000) (hB : B ≤ w.heap.size)
    (h : ∀ (t' : Sl) w', Hid (OwnN B w' (.slice t'.a t'.n t'.c) (nss ++ [nm])) → Hid (w.grownBy w' v.ownBlock ∧ ∀ j, v.ownBlock = some j → B ≤ j) → wpList Try.prog ops Q rest (a.put o.dst (.slice t'.a t'.n t'.c)) w') : wpList Try.prog ops Q (o :: rest) a w := by
  obtain ⟨xs, h1, h2⟩ := hown
  refine wpList_append_row tyNs w hgd s x 24 ho B v nss.length xs hs h1 _ 1 [.slice t.a t.n t.c] hx (src_of Try.underlying24 hr rfl (by intro u hu; simp at hu; subst hu; rfl)) (by omega) (by simp only [maxLen]; omega) hB ?_
  intro v' w' xs' q1 q2 q3 q4
  obtain ⟨ao', rfl, _⟩ := q1.out.shape
  have hle := q1.out.le
  refine h ⟨ao', nss.length + 1, xs'.length⟩ w' ⟨xs', by simpa using q1.out, fun i hi => ?_⟩ ⟨q3, h1.lt⟩
  have hkb : ∀ j, B ≤ j → j < w.heap.size → (∃ zs, BlkV w j 9 zs) → w'.heap[j]? = w.heap[j]? := by
    rintro j _ hj ⟨zs, hz⟩
    refine q3.block j hj (fun e => ?_)
    rcases h1 with ⟨e3, _⟩ | ⟨g, e3, _, hblk, _⟩
    · rw [e3] at e; cases e
    · rw [e3] at e
      have e2 : g = j := (Option.some.inj e).symm
      subst e2
      have hh : w.heap[g]? = some (.cells xs.toArray 53 (0, 0)) := hblk
      have hh' : w.heap[g]? = some (.cells zs.toArray 9 (0, 0)) := hz
      rw [hh] at hh'
      injection hh' with hh'
      injection hh' with _ hh'
      exact absurd hh' (by decide)
  have hx' : xs'.take (nss.length + 1) = xs.take nss.length ++ [.slice t.a t.n t.c] := q2.out
  have hl : (xs.take nss.length).length = nss.length := by have := h1.le.1; rw [List.length_take]; omega
  rw [List.length_append, List.length_singleton] at hi
  by_cases hlt : i < nss.length
  · obtain ⟨s', e1, e2⟩ := h2 i hlt
    refine ⟨s', ?_, ?_⟩
    · have h3 : (xs'.take (nss.length + 1))[i]? = (xs.take nss.length ++ [.slice t.a t.n t.c])[i]? := by rw [hx']
      rw [List.getElem?_take_of_lt (by omega), List.getElem?_append_left (by omega), List.getElem?_take_of_lt hlt, e1] at h3
      exact h3
    · rw [List.getElem_append_left hlt]
      exact e2.keep hkb
  · have hie : i = nss.length := by omega
    subst hie
    refine ⟨t, ?_, ?_⟩
    · have h3 : (xs'.take (nss.length + 1))[nss.length]? = (xs.take nss.length ++ [.slice t.a t.n t.c])[nss.length]? := by rw [hx']
      rw [List.getElem?_take_of_lt (by omega), List.getElem?_append_right (by omega), hl] at h3
      simpa using h3
    · rw [List.getElem_append_right (by omega)]
      simp
      exact ht.keep hkb
theorem rgo_le (l : List Int) : ∀ (n p : Nat) (out o : List ByteArray) (q : Nat), l.length - p ≤ n → rgo l p out = some (o, q) → q ≤ l.length := by
  intro n
  induction n with
  | zero =>
    intro p out o q hn h
    rw [rgo_end l p out (by omega)] at h
    cases h
  | succ n ih =>
    intro p out o q hn h
    by_cases h1 : p < l.length ∧ l.getD p 0 ≤ 63
    · by_cases h0 : l.getD p 0 = 0
      · rw [rgo_zero l p out h1 h0] at h
        cases h
        omega
      · by_cases h2 : (l.length : Int) - ((p : Int) + 1) < l.getD p 0
        · rw [rgo_short l p out h1 h0 h2] at h; cases h
        · rw [rgo_step l p out h1 h0 h2] at h
          exact ih _ _ _ _ (by omega) h
    · rw [rgo_end l p out h1] at h; cases h
theorem gName_le {zs : List Int} {p : Nat} {o : List ByteArray} {q : Nat} (h : gName zs p = some (o, q)) : q ≤ zs.length ∧ nck o = 0 ∧ p < zs.length ∧ nread zs p = (o, (q : Int), 0) := by
  unfold gName at h
  split at h
  · rename_i hp
    split at h
    · rename_i o' q' hr
      split at h
      · rename_i hk
        cases h
        refine ⟨rgo_le zs _ _ _ _ _ (Nat.le_refl _) hr, hk, hp, ?_⟩
        unfold nread
        rw [if_neg (by omega), Int.toNat_natCast, hr]
        simp [hk]
      · cases h
    · cases h
  · cases h
theorem gName_no {zs : List Int} {p : Nat} (hp : p < zs.length) (h : gName zs p = none) : nread zs p = ([], 0, 8) := by
  unfold gName at h
  rw [if_pos hp] at h
  unfold nread
  rw [if_neg (by omega), Int.toNat_natCast]
  cases hr : rgo zs p [] with
  | none => rfl
  | some x =>
    obtain ⟨o, q⟩ := x
    rw [hr] at h
    simp only at h ⊢
    split at h
    · cases h
    · rename_i hk
      rw [if_neg hk]
end Go.Proofs.Ytdeoembjfdbbkaa
/- The document's own answer: the next name of a reader. -/
namespace Go.Proofs.Ytdeoembjfdbbkaa
open Go.ChangeShapes Go.WideShapes Go.ChangeAt Go.RowKit
set_option linter.unusedVariables false
set_option linter.unusedSimpArgs false


/-- A reader of bytes and data in the making: what is known of the two blocks. -/
structure GRd (g D : Nat) (a : Option Addr) (len cap : Nat) (zs : List Int) (st : Option Nat) (x : DA) (Wb W : World) : Prop where
  m : MSt W g a len cap st
  d : DBlk W D x
  k : Kp g D Wb W
  r : Rd Wb a zs
  l : zs.length = len
  c : len ≤ cap ∧ cap ≤ 9223372036854775807
  b : len ≤ 1000000000
  nil : a = none → cap = 0
  off : zs = [] ∨ ∀ b o, a = some ⟨b, o, none⟩ → b ≠ g ∧ b ≠ D ∧ b < Wb.heap.size
  ne : g ≠ D
  lt : g < Wb.heap.size ∧ D < Wb.heap.size
theorem GRd.rd {g D : Nat} {a : Option Addr} {len cap : Nat} {zs : List Int} {st : Option Nat} {x : DA} {Wb W : World} (h : GRd g D a len cap zs st x Wb W) : Rd W a zs := by
  rcases h.off with e | hoff
  · subst e
    exact ⟨.inl rfl, by simp⟩
  · exact h.r.of_blocks h.k.size (fun b o e => h.k.block b (hoff b o e).2.2 (hoff b o e).1 (hoff b o e).2.1)
theorem GRd.go {g D : Nat} {a : Option Addr} {len cap : Nat} {zs : List Int} {st : Option Nat} {x : DA} {Wb W W' : World} (h : GRd g D a len cap zs st x Wb W) (hb : Below W.heap.size W W') : GRd g D a len cap zs st x Wb W' :=
  ⟨h.m.same (hb.block g h.m.lt), h.d.same (hb.block D h.d.lt), h.k.go hb, h.r, h.l, h.c, h.b, h.nil, h.off, h.ne, h.lt⟩
theorem GRd.own {g D : Nat} {a : Option Addr} {len cap : Nat} {zs : List Int} {st : Option Nat} {x : DA} {Wb W W' : World} {o : Option Nat} (h : GRd g D a len cap zs st x Wb W) (hg : W.grownBy W' o) (ho : ∀ j, o = some j → Wb.heap.size ≤ j) : GRd g D a len cap zs st x Wb W' :=
  ⟨h.m.same (hg.block g h.m.lt (fun e => by have := ho g e.symm; have := h.lt; omega)), h.d.same (hg.block D h.d.lt (fun e => by have := ho D e.symm; have := h.lt; omega)), h.k.own hg ho, h.r, h.l, h.c, h.b, h.nil, h.off, h.ne, h.lt⟩
theorem GRd.mv {g D : Nat} {a : Option Addr} {len cap : Nat} {zs : List Int} {st st' : Option Nat} {x : DA} {Wb W W' : World} (h : GRd g D a len cap zs st x Wb W) (hg : W.grownBy W' (some g)) (hm : MSt W' g a len cap st') : GRd g D a len cap zs st' x Wb W' :=
  ⟨hm, h.d.same (hg.block D h.d.lt (fun e => h.ne (Option.some.inj e).symm)), h.k.rd hg, h.r, h.l, h.c, h.b, h.nil, h.off, h.ne, h.lt⟩
theorem GRd.set {g D : Nat} {a : Option Addr} {len cap : Nat} {zs : List Int} {st : Option Nat} {x x' : DA} {Wb W : World} (h : GRd g D a len cap zs st x Wb W) (i : Nat) (v : Value) (hd : DBlk (W.setCell ⟨D, i, none⟩ v) D x') : GRd g D a len cap zs st x' Wb (W.setCell ⟨D, i, none⟩ v) :=
  ⟨h.m.same (Below.heap_setCell _ _ _ g (by have := h.ne; exact this)), hd, h.k.set i v, h.r, h.l, h.c, h.b, h.nil, h.off, h.ne, h.lt⟩
theorem GRd.rebase {g D : Nat} {a : Option Addr} {len cap : Nat} {zs : List Int} {st : Option Nat} {x : DA} {Wb W : World} (h : GRd g D a len cap zs st x Wb W) : GRd g D a len cap zs st x W W := by
  refine ⟨h.m, h.d, Kp.refl _ _ _, h.rd, h.l, h.c, h.b, h.nil, ?_, h.ne, h.m.lt, h.d.lt⟩
  rcases h.off with e | hoff
  · exact .inl e
  · exact .inr fun b o e => ⟨(hoff b o e).1, (hoff b o e).2.1, Nat.lt_of_lt_of_le (hoff b o e).2.2 h.k.size⟩
theorem GRd.over {g D : Nat} {a : Option Addr} {len cap : Nat} {zs : List Int} {st st' : Option Nat} {x x' : DA} {Wb W W' : World} (h : GRd g D a len cap zs st x Wb W) (h' : GRd g D a len cap zs st' x' W W') : GRd g D a len cap zs st' x' Wb W' :=
  ⟨h'.m, h'.d, h.k.trans h'.k, h.r, h.l, h.c, h.b, h.nil, h.off, h.ne, h.lt⟩
/-- What was one's own before W stays so, where the reader and the data go on from W. -/
theorem GRd.stays {g D : Nat} {a : Option Addr} {len cap : Nat} {zs : List Int} {st st' : Option Nat} {x x' : DA} {Wb W W' : World} (h : GRd g D a len cap zs st x Wb W) (h' : GRd g D a len cap zs st' x' W W') : ∀ j, Wb.heap.size ≤ j → j < W.heap.size → W'.heap[j]? = W.heap[j]? :=
  fun j h1 h2 => h'.k.block j h2 (by have := h.lt; omega) (by have := h.lt; omega)
set_option maxRecDepth 100000 in
set_option maxHeartbeats 2000000 in
theorem name_bad (g D : Nat) (a : Option Addr) (len cap : Nat) (zs : List Int) (x : DA) (Wb W : World) (h : GRd g D a len cap zs none x Wb W) :
    Calls Try.prog 77 #[.pointer (some ⟨g, 0, none⟩), .pointer (some ⟨D, 0, none⟩)] W fun e w' => e = .returned (.bool false) ∧ Hid (GRd g D a len cap zs none x Wb w') := by
  have H : Hid (GRd g D a len cap zs none x Wb W) := h
  have hm : MBlk W g (.slice none 0 0) 0 true := h.m
  have c0 := hm.c0
  have c1 := hm.c1
  have c2 := hm.c2
  clear h hm
  go_enter Try.func77, Try.ntmps77
  go_wp2_with fail
  go_quiet (fail)
  go_wp2_with fail
  go_ret
  exact ⟨rfl, H.out.go ⟨rfl, rfl, rfl, Nat.le_refl _, fun _ _ => rfl⟩⟩
set_option maxRecDepth 100000 in
set_option maxHeartbeats 2000000 in
theorem name_end (g D : Nat) (a : Option Addr) (len cap p : Nat) (zs : List Int) (x : DA) (Wb W : World) (h : GRd g D a len cap zs (some p) x Wb W) (hp : len ≤ p) :
    Calls Try.prog 77 #[.pointer (some ⟨g, 0, none⟩), .pointer (some ⟨D, 0, none⟩)] W fun e w' => e = .returned (.bool false) ∧ Hid (GRd g D a len cap zs (some p) x Wb w') := by
  have H : Hid (GRd g D a len cap zs (some p) x Wb W) := h
  have hm : MBlk W g (.slice a len cap) p false := h.m.1
  have c0 := hm.c0
  have c1 := hm.c1
  have c2 := hm.c2
  have d1 : decide ((len : Int) ≤ (p : Int)) = true := by simp; omega
  clear h hm
  go_enter Try.func77, Try.ntmps77
  go_wp2_with fail
  go_quiet (fail)
  go_wp2_with fail
  go_ret
  exact ⟨rfl, H.out.go ⟨rfl, rfl, rfl, Nat.le_refl _, fun _ _ => rfl⟩⟩
end Go.Proofs.Ytdeoembjfdbbkaa
/- The document's own answer: the next name of a reader. -/
namespace Go.Proofs.Ytdeoembjfdbbkaa
open Go.ChangeShapes Go.WideShapes Go.ChangeAt Go.RowKit
set_option linter.unusedVariables false
set_option linter.unusedSimpArgs false


theorem one_sl (w : World) (s : Sl) : RdV (w.alloc (.cells #[.slice s.a s.n s.c] 53)) (some ⟨w.heap.size, 0, none⟩) [.slice s.a s.n s.c] := by
  refine .inr ⟨w.heap.size, 0, rfl, by simp, fun i hi => ?_⟩
  have : i = 0 := by simp at hi; omega
  subst this
  unfold World.cell?
  rw [heap_alloc_new]
  rfl
set_option maxRecDepth 100000 in
set_option maxHeartbeats 2000000 in
theorem name_no (g D : Nat) (a : Option Addr) (len cap p : Nat) (zs : List Int) (x : DA) (Wb W : World) (h : GRd g D a len cap zs (some p) x Wb W) (hp : p < len) (hno : gName zs p = none) :
    Calls Try.prog 77 #[.pointer (some ⟨g, 0, none⟩), .pointer (some ⟨D, 0, none⟩)] W fun e w' => e = .returned (.bool false) ∧ Hid (GRd g D a len cap zs (some p) x Wb w') := by
  have H : Hid (GRd g D a len cap zs (some p) x Wb W) := h
  have hn : nread zs p = ([], 0, 8) := gName_no (by rw [h.l]; exact hp) hno
  have KR : Hid (∀ V, Rd V a zs → Calls Try.prog 96 #[.slice a len cap, .int .i64 p] V (RPost ([], 0, 8) V)) := by
    intro V hV
    rw [← hn]
    exact refread_any a len cap zs p V hV h.l h.b h.c
  have hm : MBlk W g (.slice a len cap) p false := h.m.1
  have c0 := hm.c0
  have c1 := hm.c1
  have c2 := hm.c2
  have d1 : decide ((len : Int) ≤ (p : Int)) = false := by simp; omega
  clear h hm hn hno
  go_enter Try.func77, Try.ntmps77
  go_wp2_with fail
  go_quiet (fail)
  have H2 : Hid (GRd g D a len cap zs (some p) x Wb (W.drewN nq)) := H.out.go ⟨rfl, rfl, rfl, Nat.le_refl _, fun _ _ => rfl⟩
  clear c0 c1 c2 H
  generalize W.drewN nq = W2 at *
  have c0 := H2.out.m.1.c0
  have c1 := H2.out.m.1.c1
  have hgl := H2.out.m.1.lt
  go_wp2_with fail
  go_region_held3 (fun V => V.cell? ⟨g, 0, none⟩ = some (.slice a len cap) ∧ V.cell? ⟨g, 1, none⟩ = some (.int .i64 (p : Int))) (exact ⟨by go_keep, by go_keep⟩) (first
    | (go_at_call 96; refine (KR.out _ ?_).mono ?_; exact H2.out.rd.drew; rintro e W3 ⟨v, ys, rfl, H3⟩; have e0 : W3.cell? ⟨g, 0, none⟩ = some (.slice a len cap) := (H3.out.2.2.cell (p := ⟨g, 0, none⟩) hgl).trans c0; have e1 : W3.cell? ⟨g, 1, none⟩ = some (.int .i64 (p : Int)) := (H3.out.2.2.cell (p := ⟨g, 1, none⟩) hgl).trans c1))
  all_goals
    have HK : Hid (GRd g D a len cap zs (some p) x Wb W3) := (H2.out.go (Below.refl _ _).drew).go H3.out.2.2
    clear c0 c1
    go_wp2_with fail
    go_ret
    exact ⟨rfl, HK⟩
set_option maxRecDepth 100000 in
set_option maxHeartbeats 2000000 in
theorem name_yes (g D : Nat) (a : Option Addr) (len cap p q : Nat) (zs : List Int) (nss : List (List ByteArray)) (o : List ByteArray) (x : DA) (Wb W : World) (h : GRd g D a len cap zs (some p) x Wb W) (hN : OwnN Wb.heap.size W (.slice x.p1.a x.p1.n x.p1.c) nss) (hl : nss.length ≤ 5) (hyes : gName zs p = some (o, q)) :
    Calls Try.prog 77 #[.pointer (some ⟨g, 0, none⟩), .pointer (some ⟨D, 0, none⟩)] W fun e w' => e = .returned (.bool true) ∧ ∃ s : Sl, Hid (GRd g D a len cap zs (some q) ⟨s, x.p2, x.p3, x.p4⟩ Wb w' ∧ OwnN Wb.heap.size w' (.slice s.a s.n s.c) (nss ++ [o])) := by
  obtain ⟨hq, hk, hp, hn⟩ := gName_le hyes
  rw [h.l] at hq hp
  have H : Hid (GRd g D a len cap zs (some p) x Wb W ∧ OwnN Wb.heap.size W (.slice x.p1.a x.p1.n x.p1.c) nss) := ⟨h, hN⟩
  have KR : Hid (∀ V, Rd V a zs → Calls Try.prog 96 #[.slice a len cap, .int .i64 p] V (RPost (o, (q : Int), 0) V)) := by
    intro V hV
    rw [← hn]
    exact refread_any a len cap zs p V hV h.l h.b h.c
  have KJ : Hid (∀ V, MSt V g a len cap (some p) → Calls Try.prog 97 #[.pointer (some ⟨g, 0, none⟩), .int .i64 (q : Int)] V fun e w' => e = .returned (.tuple #[]) ∧ Hid (MSt w' g a len cap (some q) ∧ V.grownBy w' (some g))) := by
    intro V hV
    have := refjump_any g a len cap (some p) (q : Int) V hV
    have e : jm len (some p) (q : Int) = some q := by simp only [jm]; rw [if_pos ⟨by omega, by omega⟩]; rfl
    rw [e] at this
    exact this
  have hm : MBlk W g (.slice a len cap) p false := h.m.1
  have c0 := hm.c0
  have c1 := hm.c1
  have c2 := hm.c2
  have d1 : decide ((len : Int) ≤ (p : Int)) = false := by simp; omega
  have hgD : ¬ g = D := h.ne
  clear h hm hn hyes hk hN
  obtain ⟨⟨a1, n1, k1⟩, p2, p3, p4⟩ := x
  simp only at H ⊢
  go_enter Try.func77, Try.ntmps77
  go_wp2_with fail
  go_quiet (fail)
  have H2 : Hid (GRd g D a len cap zs (some p) ⟨⟨a1, n1, k1⟩, p2, p3, p4⟩ Wb (W.drewN nq) ∧ OwnN Wb.heap.size (W.drewN nq) (.slice a1 n1 k1) nss) := ⟨H.out.1.go ⟨rfl, rfl, rfl, Nat.le_refl _, fun _ _ => rfl⟩, H.out.2.keep (fun _ _ _ => rfl)⟩
  clear c0 c1 c2 H
  generalize W.drewN nq = W2 at *
  have c0 := H2.out.1.m.1.c0
  have c1 := H2.out.1.m.1.c1
  have hgl := H2.out.1.m.1.lt
  go_wp2_with fail
  go_region_held3 (fun V => V.cell? ⟨g, 0, none⟩ = some (.slice a len cap) ∧ V.cell? ⟨g, 1, none⟩ = some (.int .i64 (p : Int))) (exact ⟨by go_keep, by go_keep⟩) (first
    | (go_at_call 96; refine (KR.out _ ?_).mono ?_; exact H2.out.1.rd.drew; rintro e W3 ⟨v, ys, rfl, H3⟩; have e0 : W3.cell? ⟨g, 0, none⟩ = some (.slice a len cap) := (H3.out.2.2.cell (p := ⟨g, 0, none⟩) hgl).trans c0; have e1 : W3.cell? ⟨g, 1, none⟩ = some (.int .i64 (p : Int)) := (H3.out.2.2.cell (p := ⟨g, 1, none⟩) hgl).trans c1))
  all_goals
    obtain ⟨t1, t2, t3⟩ := H3.out
    try simp only at t1 t2
    obtain ⟨ao, hv, _⟩ := t1.shape
    subst hv
    have H4 : Hid (GRd g D a len cap zs (some p) ⟨⟨a1, n1, k1⟩, p2, p3, p4⟩ Wb W3 ∧ OwnN Wb.heap.size W3 (.slice a1 n1 k1) nss ∧ Own1 Wb.heap.size W3 ⟨ao, o.length, ys.length⟩ o) := ⟨(H2.out.1.go (Below.refl _ _).drew).go t3, H2.out.2.keep (fun j _ hj => t3.block j hj), ys, t1.mono H2.out.1.k.size, t2⟩
    clear c0 c1 e0 e1 t1 t2 t3 H3 H2 KR
    generalize o.length = ol at *
    generalize ys.length = yl at *
    have hnb : Below W3.heap.size W3 (W3.alloc (.cells #[.slice ao ol yl] 53)) := (Below.refl _ _).alloc (Nat.le_refl _) _
    have H5 : Hid (GRd g D a len cap zs (some p) ⟨⟨a1, n1, k1⟩, p2, p3, p4⟩ Wb (W3.alloc (.cells #[.slice ao ol yl] 53)) ∧ OwnN Wb.heap.size (W3.alloc (.cells #[.slice ao ol yl] 53)) (.slice a1 n1 k1) nss ∧ Own1 Wb.heap.size (W3.alloc (.cells #[.slice ao ol yl] 53)) ⟨ao, ol, yl⟩ o ∧ RdV (W3.alloc (.cells #[.slice ao ol yl] 53)) (some ⟨W3.heap.size, 0, none⟩) [.slice ao ol yl] ∧ Wb.heap.size ≤ (W3.alloc (.cells #[.slice ao ol yl] 53)).heap.size) := ⟨H4.out.1.go hnb, H4.out.2.1.keep (fun j _ hj => hnb.block j hj), H4.out.2.2.keep (fun j _ hj _ => hnb.block j hj), one_sl W3 ⟨ao, ol, yl⟩, Nat.le_trans H4.out.1.k.size hnb.size⟩
    have b0 := H4.out.1.d.box.1
    have hDl := H4.out.1.d.lt
    simp only at b0
    clear hnb
    go_wp2_with (at_builtin; refine wp_names rfl _ _ rfl Wb.heap.size _ nss rfl H5.out.2.1 ⟨W3.heap.size, 0, none⟩ rfl ⟨ao, ol, yl⟩ o H5.out.2.2.2.1 H5.out.2.2.1 (by omega) H5.out.2.2.2.2 ?_; intro t' W6 H6 HG6; have H7 : Hid (GRd g D a len cap zs (some p) ⟨⟨a1, n1, k1⟩, p2, p3, p4⟩ Wb W6) := H5.out.1.own HG6.out.1 HG6.out.2; have f0 := H7.out.d.box.1; have hf := H7.out.d.fz 0; simp only at f0)
    have H8 : Hid (GRd g D a len cap zs (some p) ⟨t', p2, p3, p4⟩ Wb (W6.setCell ⟨D, 0, none⟩ (.slice t'.a t'.n t'.c)) ∧ OwnN Wb.heap.size (W6.setCell ⟨D, 0, none⟩ (.slice t'.a t'.n t'.c)) (.slice t'.a t'.n t'.c) (nss ++ [o])) := ⟨H7.out.set 0 _ (H7.out.d.set0 t'), H6.out.keep (fun j h1 h2 => Below.heap_setCell _ _ _ j (by have := H7.out.lt; show j ≠ D; omega))⟩
    refine (KJ.out _ H8.out.1.m).mono ?_
    rintro e W9 ⟨rfl, H9⟩
    have H10 : Hid (GRd g D a len cap zs (some q) ⟨t', p2, p3, p4⟩ Wb W9 ∧ OwnN Wb.heap.size W9 (.slice t'.a t'.n t'.c) (nss ++ [o])) := ⟨H8.out.1.mv H9.out.2 H9.out.1, H8.out.2.keep (fun j h1 h2 => H9.out.2.block j h2 (fun e => by have := H8.out.1.lt; have := Option.some.inj e; omega))⟩
    clear b0 hDl f0 hf
    go_wp2_with fail
    go_ret
    exact ⟨rfl, t', H10⟩
/-- No name there. -/
theorem name_fail (g D : Nat) (a : Option Addr) (len cap : Nat) (zs : List Int) (st : Option Nat) (x : DA) (Wb W : World) (h : GRd g D a len cap zs st x Wb W) (hno : ∀ p, st = some p → gName zs p = none) :
    Calls Try.prog 77 #[.pointer (some ⟨g, 0, none⟩), .pointer (some ⟨D, 0, none⟩)] W fun e w' => e = .returned (.bool false) ∧ Hid (GRd g D a len cap zs st x Wb w') := by
  cases st with
  | none => exact name_bad g D a len cap zs x Wb W h
  | some p =>
    by_cases hp : p < len
    · exact name_no g D a len cap p zs x Wb W h hp (hno p rfl)
    · exact name_end g D a len cap p zs x Wb W h (by omega)
end Go.Proofs.Ytdeoembjfdbbkaa
