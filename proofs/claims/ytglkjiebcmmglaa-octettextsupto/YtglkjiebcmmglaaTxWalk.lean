/- The statement's function about digits and joined pieces returns true and leaves what was there. -/
import Derived.Test.YtglkjiebcmmglaaTxa
namespace Go.Proofs.Ytglkjiebcmmglaa
open Go.ChangeShapes Go.WideShapes Go.ChangeAt Go.RowKit
set_option linter.unusedVariables false
set_option linter.unusedSimpArgs false

theorem cells_new (w : World) (xs : List Value) (t : TypeId) : ∀ q u, xs[q]? = some u → (w.alloc (.cells xs.toArray t)).cell? ((⟨w.heap.size, 0, none⟩ : Addr).add q) = some u := by
  intro q u hu
  rw [Addr.add_lit, Nat.zero_add]
  have h := heap_alloc_new w (.cells xs.toArray t)
  unfold World.cell?
  simp only [h]
  simpa using hu

set_option maxRecDepth 100000 in
set_option maxHeartbeats 2000000 in
theorem texts_main (ad : Option Addr) (N C : Nat) (ps : List Piece) (s : ByteArray) (w : World) (hN : ps.length = N) (hp : PcsA w ad ps) (hs : s.size ≤ 2000 ∨ (131070 < s.size ∧ s.size ≤ 131080)) (h30 : N ≤ 30) (hT : (jn ps ps.length).length ≤ 1048576) (hle : ∀ k (h : k < ps.length), ps[k].2.2.length ≤ ps[k].2.1 ∧ ps[k].2.2.length ≤ 1048576) :
    Calls Try.prog 4 #[.slice ad N C, .string s] w fun e w' => e = .returned (.bool true) ∧ Below w.heap.size w w' := by
  have HN : Hid (ps.length = N) := hN
  have HP : Hid (PcsA w ad ps) := hp
  have HT : Hid ((jn ps ps.length).length ≤ 1048576) := hT
  have HLE : Hid (∀ k (h : k < ps.length), ps[k].2.2.length ≤ ps[k].2.1 ∧ ps[k].2.2.length ≤ 1048576) := hle
  clear hN hp hT hle
  obtain ⟨i23, hi, hz0, hz1, hz2⟩ := info_parts Try.info23
  have HI : Hid (Try.prog.info? 23 = some i23 ∧ i23.zero = some (.slice none 0 0) ∧ i23.size = 1 ∧ i23.bytes = 24) := ⟨hi, hz0, hz1, hz2⟩
  clear hi hz0 hz1 hz2
  have h30' : ¬ (30 : Int) < (N : Int) := by omega
  have hs1 : s.size ≤ 9223372036854775807 := by omega
  have hs3 : ¬ (131080 : Int) < (s.size : Int) := by omega
  have hs12 : (¬ (2000 : Int) < (s.size : Int)) ∨ ((2000 : Int) < (s.size : Int) ∧ ¬ (s.size : Int) ≤ 131070) := by omega
  clear hs
  rcases hs12 with g1 | ⟨g1, g2⟩
  all_goals
    go_enter Try.func4, Try.ntmps4
    go_wp2_with fail
    go_loopw [5, 6] (fun v x wr => ∃ (k : Nat) (es : List Elem), k ≤ N ∧ x = .int .i64 k ∧ Hid (Ins w.heap.size wr v es ∧ es.length = k ∧ Fits es ps) ∧ Hid (Below w.heap.size w wr)) (fun _ x _ => N - (intOf x).toNat)
    case atStart => exact ⟨0, [], Nat.zero_le _, rfl, ⟨⟨World.ownsRow_nil _ _ _ _, by simp, List.Pairwise.nil, Nat.le_refl _⟩, rfl, fun j h => absurd h (by simp)⟩, Below.refl _ _⟩
    case round =>
      obtain ⟨k, es, hk, rfl, HW, HB⟩ := hrel
      by_cases hlt : k < N
      · have hlt' : (k : Int) < (N : Int) := by omega
        have hke : k < ps.length := by rw [HN.out]; exact hlt
        have HPw : Hid (PcsA wr ad ps) := HP.out.below HB.out
        rcases HPw.out with h0 | ⟨b, o, rfl, hb, hcs⟩
        · subst h0; simp at hke
        obtain ⟨hcl, hrd, hnl⟩ := hcs k hke
        have hpl := HLE.out k hke
        clear hcs
        have HX : Hid (Calls Try.prog 8 #[.slice ps[k].1 ps[k].2.2.length ps[k].2.1] wr fun e w' => e = .returned (.slice (some ⟨wr.heap.size, 0, none⟩) ps[k].2.2.length (ps[k].2.2.length + 3)) ∧ Hid (Blk w' wr.heap.size (lent ps[k].2.2 3) ∧ w'.heap.size = wr.heap.size + 1 ∧ Below wr.heap.size wr w')) := lent_any ps[k].1 ps[k].2.1 ps[k].2.2 wr hrd hnl (by omega)
        clear hrd hnl
        obtain ⟨pl, hpl2⟩ : ∃ x, ps[k].2.2.length = x := ⟨_, rfl⟩
        have HPL : Hid (ps[k].2.2.length = pl) := hpl2
        rw [hpl2] at hcl hpl
        rw [hpl2] at HX
        clear hpl2
        go_wp2_with fail
        refine HX.out.mono ?_
        rintro e w1 ⟨rfl, HW1⟩
        have HI1 : Hid (Ins w.heap.size w1 u5 es) := HW.out.1.below HW1.out.2.2
        have hsz1 : w.heap.size ≤ w1.heap.size := HI1.out.sz
        go_wp2_with (at_builtin; refine wpList_append_own _ rfl _ _ 37 rfl w.heap.size 23 i23 (.slice none 0 0) 1 24 Try.underlying37 HI.out.1 HI.out.2.1 HI.out.2.2.1 HI.out.2.2.2 rfl (by decide) u5 es.length (vals es) rfl (HI1.out.row.alloc _) ⟨w1.heap.size, 0, none⟩ 1 1 [.slice (some ⟨wr.heap.size, 0, none⟩) pl (pl + 3)] rfl rfl (cell_one_new _ _ _) (fun x hx => by simp at hx; subst hx; rfl) (by have := HW.out.2.1; unfold maxLen; omega) (by have := HW.out.2.1; omega) (by simp; omega) ?_; intro v' w2 hrow hgrow hnil)
        have hll : (lent ps[k].2.2 3).length = pl + 3 := by rw [lent_len _ 3 (by omega), HPL.out]
        have hek := HW.out.2.1
        have hbA : ∀ o, Below wr.heap.size wr (w1.alloc o) := fun o => HW1.out.2.2.alloc (by have := HW1.out.2.1; omega) o
        have hI2 := HW.out.1.push (hbA _) [(some ⟨wr.heap.size, 0, none⟩, pl, lent ps[k].2.2 3)] hgrow (by simp only [vals, List.map_cons, List.map_nil, hll]; exact hrow) (by
          intro e he
          simp at he; subst he
          exact .inr ⟨_, rfl, Nat.le_refl _, HW1.out.1.same (Below.heap_alloc _ _ _ (by have := HW1.out.2.1; omega)), by show pl ≤ _; rw [hll]; omega, by rw [hll]; unfold maxLen; omega⟩) (by simp)
        refine ⟨⟨k + 1, _, by omega, by simp, ⟨hI2, by simp [hek], ?_⟩, ?_⟩, by simp [intOf]; omega⟩
        · have := HW.out.2.2.push (ps := ps) (by rw [hek]; exact hke) (some ⟨wr.heap.size, 0, none⟩)
          simp only [hek, HPL.out] at this
          exact this
        · exact (HB.out.trans ((hbA _).mono HW.out.1.sz)).grown hgrow (by simp; omega) (fun q hq => (HW.out.1.row.lt q hq).1)
      · obtain rfl : k = N := by omega
        have hge : ¬ (k : Int) < (k : Int) := by omega
        have KJ : Hid (∀ W, Below wr.heap.size wr W → Calls Try.prog 20 #[u5] W fun e w' => e = .returned (.slice (some ⟨W.heap.size, 0, none⟩) (jn ps ps.length).length (jn ps ps.length).length) ∧ Hid (Blk w' W.heap.size (jn ps ps.length) ∧ Below W.heap.size W w')) := fun W hW =>
          join_ins w.heap.size k u5 es ps W (HW.out.1.below hW) HW.out.2.1 HN.out HW.out.2.2 (by omega) (by have := HT.out; omega)
        have KR : Hid (∀ W, Below w.heap.size w W → Calls Try.prog 21 #[.slice ad k C] W fun e w' => ∃ ao ys, e = .returned (.slice ao (jn ps ps.length).length ys.length) ∧ Hid (OwnA W.heap.size w' ao (jn ps ps.length).length ys ∧ ys.take (jn ps ps.length).length = jn ps ps.length ∧ Below W.heap.size W w')) := fun W hW =>
          refjoin_any ad k C ps W HN.out (HP.out.below hW) (by omega) (by have := HT.out; omega)
        have KU : Hid (∀ W, Calls Try.prog 22 #[.string s] W (UxPost s W)) := fun W => ux_any s W hs1
        have KV : Hid (∀ W, Calls Try.prog 23 #[.string s] W (UhPost s W)) := fun W => refunhex_any s W hs1
        unfold UxPost at KU
        unfold UhPost at KV
        have HTj : Hid ((jn ps ps.length).length ≤ 1048576) := HT
        have hul := uhL_len s
        generalize jn ps ps.length = J at *
        generalize uhL s = U at *
        generalize uhE s = E at *
        obtain ⟨T, hT⟩ : ∃ T, J.length = T := ⟨_, rfl⟩
        have HJT : Hid (J.length = T ∧ T ≤ 1048576) := ⟨hT, by have := HTj.out; omega⟩
        obtain ⟨UL, hUL⟩ : ∃ UL, U.length = UL := ⟨_, rfl⟩
        have HUL : Hid (U.length = UL ∧ UL ≤ 131070) := ⟨hUL, by omega⟩
        rw [hT] at KJ KR
        rw [hUL] at KU KV
        clear hT hUL hul HTj
        go_wp2_with fail
        refine (KJ.out _ (Below.refl _ _)).mono ?_
        rintro e w1 ⟨rfl, H1⟩
        go_wp2_with fail
        refine (KJ.out _ H1.out.2).mono ?_
        rintro e w2 ⟨rfl, H2⟩
        have B2 : Hid (Below wr.heap.size wr w2) := H1.out.2.trans (H2.out.2.mono H1.out.2.size)
        go_wp2_with fail
        refine (KR.out _ (HB.out.trans (B2.out.mono HB.out.size))).mono ?_
        rintro e w3 ⟨ao3, ys3, rfl, H3⟩
        have B3 : Hid (Below wr.heap.size wr w3) := B2.out.trans (H3.out.2.2.mono B2.out.size)
        go_wp2_with fail
        refine (KU.out _).mono ?_
        rintro e w4 ⟨ao4, rfl, H4⟩
        have B4 : Hid (Below wr.heap.size wr w4) := B3.out.trans (H4.out.2.mono B3.out.size)
        go_wp2_with fail
        refine (KU.out _).mono ?_
        rintro e w5 ⟨ao5, rfl, H5⟩
        have B5 : Hid (Below wr.heap.size wr w5) := B4.out.trans (H5.out.2.mono B4.out.size)
        go_wp2_with fail
        refine (KV.out _).mono ?_
        rintro e w6 ⟨ao6, ys6, rfl, H6⟩
        have B6 : Hid (Below wr.heap.size wr w6) := B5.out.trans (H6.out.2.2.mono B5.out.size)
        clear KJ KR KU KV
        have hmx : T ≤ maxLen ∧ UL ≤ maxLen := by have := HJT.out.2; have := HUL.out.2; simp only [maxLen]; omega
        have b56 := H6.out.2.2
        have b46 := H5.out.2.trans (b56.mono H5.out.2.size)
        have b36 := H4.out.2.trans (b46.mono H4.out.2.size)
        have b26 := H3.out.2.2.trans (b36.mono H3.out.2.2.size)
        have b16 := H2.out.2.trans (b26.mono H2.out.2.size)
        have s1 := H1.out.2.size
        have s2 := B2.out.size
        have s3 := B3.out.size
        have s4 := B4.out.size
        have o1 : OwnA wr.heap.size w6 (some ⟨wr.heap.size, 0, none⟩) T J := .inr ⟨_, rfl, Nat.le_refl _, H1.out.1.below b16, by rw [HJT.out.1]; exact Nat.le_refl _, by rw [HJT.out.1]; exact hmx.1⟩
        have o2 : OwnA wr.heap.size w6 (some ⟨w1.heap.size, 0, none⟩) T J := .inr ⟨_, rfl, s1, H2.out.1.below b26, by rw [HJT.out.1]; exact Nat.le_refl _, by rw [HJT.out.1]; exact hmx.1⟩
        have o4 : OwnA wr.heap.size w6 ao4 UL U := (H4.out.1.mono s3).below b46
        have o5 : OwnA wr.heap.size w6 ao5 UL U := (H5.out.1.mono s4).below b56
        have r3 : Rd w6 ao3 J := by
          have := (H3.out.1.rdTake T).below b36
          rw [H3.out.2.1] at this
          exact this
        have r6 : Rd w6 ao6 U := by
          have := H6.out.1.rdTake UL
          rw [H6.out.2.1] at this
          exact this
        have HR : Hid (Rd w6 (some ⟨wr.heap.size, 0, none⟩) J ∧ Rd w6 (some ⟨w1.heap.size, 0, none⟩) J ∧ Rd w6 ao3 J ∧ Rd w6 ao4 U ∧ Rd w6 ao5 U ∧ Rd w6 ao6 U) := ⟨o1.rd, o2.rd, r3, o4.rd, o5.rd, r6⟩
        have HE2 : Hid ((∀ e ∈ ([(some ⟨wr.heap.size, 0, none⟩, T, J), (some ⟨w1.heap.size, 0, none⟩, T, J), (ao4, UL, U), (ao5, UL, U)] : List Elem), OwnA wr.heap.size w6 e.1 e.2.1 e.2.2) ∧
            ([(some ⟨wr.heap.size, 0, none⟩, T, J), (some ⟨w1.heap.size, 0, none⟩, T, J), (ao4, UL, U), (ao5, UL, U)] : List Elem).Pairwise fun e f => ∀ g, blk e.1 = some g → blk f.1 ≠ some g) := by
          have a1 : OwnA wr.heap.size w1 (some ⟨wr.heap.size, 0, none⟩) T J := .inr ⟨_, rfl, Nat.le_refl _, H1.out.1, by rw [HJT.out.1]; exact Nat.le_refl _, by rw [HJT.out.1]; exact hmx.1⟩
          have a2 : OwnA w1.heap.size w2 (some ⟨w1.heap.size, 0, none⟩) T J := .inr ⟨_, rfl, Nat.le_refl _, H2.out.1, by rw [HJT.out.1]; exact Nat.le_refl _, by rw [HJT.out.1]; exact hmx.1⟩
          have t2 := H2.out.2.size
          have t3 := H3.out.2.2.size
          have t4 := H4.out.2.size
          refine ⟨?_, ?_⟩
          · intro e he
            simp only [List.mem_cons, List.mem_nil_iff, or_false] at he
            rcases he with rfl | rfl | rfl | rfl
            · exact o1
            · exact o2
            · exact o4
            · exact o5
          · refine List.Pairwise.cons ?_ (List.Pairwise.cons ?_ (List.Pairwise.cons ?_ (List.Pairwise.cons (by simp) List.Pairwise.nil)))
            · intro f hf
              simp only [List.mem_cons, List.mem_nil_iff, or_false] at hf
              rcases hf with rfl | rfl | rfl
              · exact a1.apart a2 (Nat.le_refl _)
              · exact a1.apart H4.out.1 (by omega)
              · exact a1.apart H5.out.1 (by omega)
            · intro f hf
              simp only [List.mem_cons, List.mem_nil_iff, or_false] at hf
              rcases hf with rfl | rfl
              · exact a2.apart H4.out.1 (by omega)
              · exact a2.apart H5.out.1 (by omega)
            · intro f hf
              simp only [List.mem_cons, List.mem_nil_iff, or_false] at hf
              subst hf
              exact H4.out.1.apart H5.out.1 (Nat.le_refl _)
        clear hmx b56 b46 b36 b26 b16 s1 s2 s3 s4 o1 o2 o4 o5 r3 r6 H1 H2 H3 H4 H5 H6 B2 B3 B4 B5
        generalize ys3.length = yl3 at *
        generalize ys6.length = yl6 at *
        go_wp2_with fail
        refine (same_yes _ _ T _ _ J _ HR.out.1 HR.out.2.2.1 HJT.out.1).mono ?_
        rintro e w7 ⟨rfl, rfl⟩
        go_wp2_with fail
        refine (same_yes _ _ T _ _ J _ HR.out.2.1 HR.out.2.2.1 HJT.out.1).mono ?_
        rintro e w8 ⟨rfl, rfl⟩
        go_wp2_with fail
        refine (hex_any _ T _ J _ HR.out.1 HJT.out.1 (by have := HJT.out.2; omega)).mono ?_
        rintro e w9 ⟨rfl, H9⟩
        generalize hhx : hexl J = HX at *
        go_wp2_with fail
        refine (refhex_any _ T _ J _ (HR.out.2.2.1.below H9.out) HJT.out.1 (by have := HJT.out.2; omega)).mono ?_
        rintro e w10 ⟨rfl, H10⟩
        rw [hhx]
        clear hhx
        have B10 : Hid (Below w8.heap.size w8 w10) := H9.out.trans (H10.out.mono H9.out.size)
        clear H9 H10
        go_wp2_with fail
        refine (same_yes _ _ UL _ _ U _ (HR.out.2.2.2.1.below B10.out) (HR.out.2.2.2.2.2.below B10.out) HUL.out.1).mono ?_
        rintro e w11 ⟨rfl, rfl⟩
        go_wp2_with fail
        refine (same_yes _ _ UL _ _ U _ (HR.out.2.2.2.2.1.below B10.out) (HR.out.2.2.2.2.2.below B10.out) HUL.out.1).mono ?_
        rintro e w12 ⟨rfl, rfl⟩
        clear HR
        have HB8 : Hid (Below w.heap.size w w8) := HB.out.trans (B6.out.mono HB.out.size)
        have HB12 : Hid (Below wr.heap.size wr w12) := B6.out.trans (B10.out.mono B6.out.size)
        have HO12 : Hid (∀ e ∈ ([(some ⟨wr.heap.size, 0, none⟩, T, J), (some ⟨w1.heap.size, 0, none⟩, T, J), (ao4, UL, U), (ao5, UL, U)] : List Elem), OwnA wr.heap.size w12 e.1 e.2.1 e.2.2) := fun e he => (HE2.out.1 e he).below B10.out
        have HPW : Hid (([(some ⟨wr.heap.size, 0, none⟩, T, J), (some ⟨w1.heap.size, 0, none⟩, T, J), (ao4, UL, U), (ao5, UL, U)] : List Elem).Pairwise fun e f => ∀ g, blk e.1 = some g → blk f.1 ≠ some g) := HE2.out.2
        clear HE2 B6 B10 HB8
        go_wp2_with fail
        obtain ⟨wz, hwz⟩ : ∃ x, x = wr := ⟨_, rfl⟩
        subst hwz
        go_loopw [16] (fun x wq => ∃ j : Nat, j ≤ k ∧ x = .int .i64 j ∧ Hid (Below w12.heap.size w12 wq)) (fun x _ => k - (intOf x).toNat)
        case atStart => exact ⟨0, Nat.zero_le _, rfl, Below.refl _ _⟩
        case round =>
          obtain ⟨j, hj, rfl, HQ⟩ := hrel
          have HBq : Hid (Below wz.heap.size wz wr) := HB12.out.trans (HQ.out.mono HB12.out.size)
          have HIq : Hid (Ins w.heap.size wr u5 es ∧ es.length = k ∧ Fits es ps) := ⟨HW.out.1.below HBq.out, HW.out.2⟩
          have HPq : Hid (PcsA wr ad ps) := HP.out.below (HB.out.trans (HBq.out.mono HB.out.size))
          by_cases hjk : j < k
          · have hjk' : (j : Int) < (k : Int) := by omega
            have hje : j < es.length := by rw [HIq.out.2.1]; exact hjk
            have hjp : j < ps.length := by rw [HN.out]; exact hjk
            rcases row_slice HIq.out.1.row with ⟨_, h0⟩ | ⟨L, C5, hu5, hC5⟩
            · rw [HIq.out.2.1] at h0; omega
            rw [HIq.out.2.1] at hu5 hC5
            have hins : Ins w.heap.size wr (.slice (some ⟨L, 0, none⟩) es.length C5) es := by rw [HIq.out.2.1, ← hu5]; exact HIq.out.1
            obtain ⟨hlie, _, _, _⟩ := hins.lie
            obtain ⟨hcl, hown⟩ := hlie.2 j hje
            obtain ⟨f1, f2⟩ := HIq.out.2.2 j hje hjp
            rcases HPq.out with h0 | ⟨b, o, had, hb, hcs⟩
            · rw [h0] at hjp; simp at hjp
            obtain ⟨hcl2, hrd, hnl⟩ := hcs j hjp
            have hpl := HLE.out j hjp
            have hll := lent_len ps[j].2.2 3 (by omega)
            rcases hown with ⟨_, _, e0⟩ | ⟨g, eg, hBg, hbk, _, _⟩
            · rw [f2] at e0; rw [e0] at hll; simp at hll
            rw [eg, f1, f2, hll] at hcl
            rw [f2] at hbk
            have hK : ∀ W, Below wr.heap.size wr W → Calls Try.prog 18 #[.slice (some ⟨g, 0, none⟩) ps[j].2.2.length (ps[j].2.2.length + 3), .slice ps[j].1 ps[j].2.2.length ps[j].2.1] W fun e w' => e = .returned (.bool true) ∧ Below W.heap.size W w' := fun W hW =>
              kept_yes g ps[j].1 ps[j].2.1 ps[j].2.2.length ps[j].2.2 W rfl (hbk.below hW) (hrd.below hW) hnl (by omega) (by omega)
            have HK : Hid (∀ W, Below wr.heap.size wr W → Calls Try.prog 18 #[.slice (some ⟨g, 0, none⟩) ps[j].2.2.length (ps[j].2.2.length + 3), .slice ps[j].1 ps[j].2.2.length ps[j].2.1] W fun e w' => e = .returned (.bool true) ∧ Below W.heap.size W w') := hK
            have hLs : L < wr.heap.size := hlie.1
            clear hK hlie hins hcs hrd hnl hpl hbk f1 f2 eg hll hBg
            generalize ps[j].2.2.length = pl at *
            generalize ps[j].1 = pa at *
            generalize ps[j].2.1 = pc at *
            subst hu5
            subst had
            go_wp2_with fail
            go_region_held3 (fun W => W.cell? ⟨L, j, none⟩ = some (.slice (some ⟨g, 0, none⟩) pl (pl + 3)) ∧ W.cell? ⟨b, o + j, none⟩ = some (.slice pa pl pc)) (go_keep) (first
              | (go_at_call 18; refine (HK.out _ ?_).mono ?_; exact (Below.refl _ _).drew; rintro e wy ⟨rfl, HY⟩; have y1 : wy.cell? ⟨L, j, none⟩ = some (.slice (some ⟨g, 0, none⟩) pl (pl + 3)) := (HY.cell (p := ⟨L, j, none⟩) hLs).trans hcl; have y2 : wy.cell? ⟨b, o + j, none⟩ = some (.slice pa pl pc) := (HY.cell (p := ⟨b, o + j, none⟩) hb).trans hcl2; have HY2 : Hid (Below wr.heap.size wr wy) := (Below.refl _ _).drew.trans HY; clear HY))
            clear hcl hcl2 y1 y2
            go_wp2
            exact ⟨⟨j + 1, by omega, by go_num, HQ.out.trans (HY2.out.mono HQ.out.size)⟩, by simp [intOf]; omega⟩
          · obtain rfl : j = k := by omega
            have hgj : ¬ (j : Int) < (j : Int) := by omega
            have hszw : w.heap.size ≤ wr.heap.size := HIq.out.1.sz
            have hel := HIq.out.2.1
            have HCN : Hid (∀ q u, ([.slice (some ⟨wz.heap.size, 0, none⟩) T T, .slice (some ⟨w1.heap.size, 0, none⟩) T T, .slice ao4 UL UL, .slice ao5 UL UL] : List Value)[q]? = some u → (wr.alloc (.cells #[.slice (some ⟨wz.heap.size, 0, none⟩) T T, .slice (some ⟨w1.heap.size, 0, none⟩) T T, .slice ao4 UL UL, .slice ao5 UL UL] 23)).cell? ((⟨wr.heap.size, 0, none⟩ : Addr).add q) = some u) := cells_new wr _ 23
            go_wp2_with (at_builtin; refine wpList_append_own _ rfl _ _ 37 rfl w.heap.size 23 i23 (.slice none 0 0) 1 24 Try.underlying37 HI.out.1 HI.out.2.1 HI.out.2.2.1 HI.out.2.2.2 rfl (by decide) u5 es.length (vals es) rfl (HIq.out.1.row.alloc _) ⟨wr.heap.size, 0, none⟩ 4 4 [.slice (some ⟨wz.heap.size, 0, none⟩) T T, .slice (some ⟨w1.heap.size, 0, none⟩) T T, .slice ao4 UL UL, .slice ao5 UL UL] rfl rfl HCN.out (fun x hx => by simp only [List.mem_cons, List.mem_nil_iff, or_false] at hx; rcases hx with rfl | rfl | rfl | rfl <;> rfl) (by unfold maxLen; omega) (by omega) (by simp; omega) ?_; intro v' wy hrow hgrow hnil; have HRW : Hid (wy.ownsRow w.heap.size 23 1 v' (es.length + 4) (vals es ++ [.slice (some ⟨wz.heap.size, 0, none⟩) T T, .slice (some ⟨w1.heap.size, 0, none⟩) T T, .slice ao4 UL UL, .slice ao5 UL UL])) := hrow; have HGR : Hid ((wr.alloc (.cells #[.slice (some ⟨wz.heap.size, 0, none⟩) T T, .slice (some ⟨w1.heap.size, 0, none⟩) T T, .slice ao4 UL UL, .slice ao5 UL UL] 23)).grownBy wy u5.ownBlock) := hgrow; clear hrow hgrow hnil)
            have hbA : Below wz.heap.size wz (wr.alloc (.cells #[.slice (some ⟨wz.heap.size, 0, none⟩) T T, .slice (some ⟨w1.heap.size, 0, none⟩) T T, .slice ao4 UL UL, .slice ao5 UL UL] 23)) := HBq.out.alloc HBq.out.size _
            have hbB : Below w12.heap.size w12 (wr.alloc (.cells #[.slice (some ⟨wz.heap.size, 0, none⟩) T T, .slice (some ⟨w1.heap.size, 0, none⟩) T T, .slice ao4 UL UL, .slice ao5 UL UL] 23)) := HQ.out.alloc HQ.out.size _
            have hv2 : vals [(some ⟨wz.heap.size, 0, none⟩, T, J), (some ⟨w1.heap.size, 0, none⟩, T, J), (ao4, UL, U), (ao5, UL, U)] = [.slice (some ⟨wz.heap.size, 0, none⟩) T T, .slice (some ⟨w1.heap.size, 0, none⟩) T T, .slice ao4 UL UL, .slice ao5 UL UL] := by simp only [vals, List.map_cons, List.map_nil, HJT.out.1, HUL.out.1]
            have hI2 := HW.out.1.push hbA [(some ⟨wz.heap.size, 0, none⟩, T, J), (some ⟨w1.heap.size, 0, none⟩, T, J), (ao4, UL, U), (ao5, UL, U)] HGR.out (by rw [hv2]; exact HRW.out) (fun e he => (HO12.out e he).below hbB) HPW.out
            have hfin : Below w.heap.size w wy := (HB.out.trans (hbA.mono HB.out.size)).grown HGR.out (Nat.le_trans HB.out.size hbA.size) (fun q hq => (HW.out.1.row.lt q hq).1)
            have hsm : ∀ q (h : q < (es ++ [(some ⟨wz.heap.size, 0, none⟩, T, J), (some ⟨w1.heap.size, 0, none⟩, T, J), (ao4, UL, U), (ao5, UL, U)]).length), (es ++ [(some ⟨wz.heap.size, 0, none⟩, T, J), (some ⟨w1.heap.size, 0, none⟩, T, J), (ao4, UL, U), (ao5, UL, U)])[q].2.2.length ≤ 140737488355328 := by
              intro q hq
              have hmem := List.getElem_mem hq
              rcases List.mem_append.1 hmem with he | he
              · obtain ⟨q2, hq2, e2⟩ := List.getElem_of_mem he
                have hqp : q2 < ps.length := by rw [HN.out, ← hel]; exact hq2
                have f := (HW.out.2.2 q2 hq2 hqp).2
                have hl3 := lent_len ps[q2].2.2 3 (by omega)
                have hle3 := (HLE.out q2 hqp).2
                rw [← e2, f, hl3]
                omega
              · have h1 := HJT.out
                have h2 := HUL.out
                simp only [List.mem_cons, List.mem_nil_iff, or_false] at he
                rcases he with he | he | he | he <;> (rw [he]; simp only; omega)
            rcases row_slice hI2.row with ⟨_, h0⟩ | ⟨L2, C2, hv', hC2⟩
            · simp at h0
            have hI3 := hI2
            rw [hv'] at hI3
            obtain ⟨hlie, hap, hBL, _⟩ := hI3.lie
            have HA : Hid (Calls Try.prog 19 #[v'] wy fun e w' => e = .returned (.bool true) ∧ Below w.heap.size wy w') := by
              rw [hv']
              exact apart_wide w.heap.size L2 _ C2 _ wy rfl hC2 (by simp; omega) hI2.sz hBL hlie hap hsm
            have HF : Hid (Below w.heap.size w wy) := hfin
            clear hbA hbB hv2 hI2 hfin hsm hI3 hlie hap hBL hv' hC2 HRW HGR HCN
            refine HA.out.mono ?_
            rintro e wx ⟨rfl, HX2⟩
            have HFF : Hid (Below w.heap.size w wx) := HF.out.trans HX2
            clear HX2
            go_wp2
            go_ret
            exact ⟨rfl, HFF.out⟩
end Go.Proofs.Ytglkjiebcmmglaa
