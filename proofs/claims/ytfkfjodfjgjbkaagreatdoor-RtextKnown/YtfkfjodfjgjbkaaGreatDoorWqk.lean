/- Texts laid together: Sd Ak Qb Qd Qe Pf Pg Ph Pq. -/
import Derived.Test.YtfkfjodfjgjbkaaGreatDoorWqj
import Derived.BigQuiet
import Derived.Deep.QuietTactic
import Derived.Deep.CutBlock
import Derived.Deep.RegionHeld3
/- Data that are the same, to the letter. -/
namespace Go.Proofs.YtfkfjodfjgjbkaaGreatDoor
open Go.ChangeShapes Go.WideShapes Go.ChangeAt Go.RowKit
set_option linter.unusedVariables false
set_option linter.unusedSimpArgs false




/-- Where the walk stands: both lie in blocks of their own, and can be read. -/
def SdSt (w W : World) (b : Nat) (x y : DA) (d : Dat) : Prop := DBox W b x ∧ DBox W (b + 1) y ∧ DRd W x d ∧ DRd W y d ∧ Below w.heap.size w W
theorem SdSt.go {w W W' : World} {b : Nat} {x y : DA} {d : Dat} (h : SdSt w W b x y d) (hb : Below W.heap.size W W') : SdSt w W' b x y d :=
  ⟨h.1.below hb, h.2.1.below hb, h.2.2.1.below hb, h.2.2.2.1.below hb, h.2.2.2.2.trans (hb.mono h.2.2.2.2.size)⟩
set_option maxRecDepth 100000 in
set_option maxHeartbeats 2000000 in
theorem samedata_yes (x y : DA) (d : Dat) (w : World) (hx : DRd w x d) (hy : DRd w y d) :
    Calls Tryz.prog 21 #[.agg #[.slice x.p1.a x.p1.n x.p1.c, .slice x.p2.a x.p2.n x.p2.c, .slice x.p3.a x.p3.n x.p3.c, .slice x.p4.a x.p4.n x.p4.c], .agg #[.slice y.p1.a y.p1.n y.p1.c, .slice y.p2.a y.p2.n y.p2.c, .slice y.p3.a y.p3.n y.p3.c, .slice y.p4.a y.p4.n y.p4.c]] w fun e w' => e = .returned (.bool true) ∧ Hid (Below w.heap.size w w') := by
  have hb1 : Below w.heap.size w (w.alloc (.cells #[.slice x.p1.a x.p1.n x.p1.c, .slice x.p2.a x.p2.n x.p2.c, .slice x.p3.a x.p3.n x.p3.c, .slice x.p4.a x.p4.n x.p4.c] 29)) := (Below.refl _ _).alloc (Nat.le_refl _) _
  have HX := DBox.new w x
  have hx1 := hx.below hb1
  have hy1 := hy.below hb1
  have e1 : y.p1.n = x.p1.n := by rw [← hx.h1.len, ← hy.h1.len]
  have e2 : y.p2.n = x.p2.n := by rw [← hx.h2.len, ← hy.h2.len]
  have e3 : y.p3.n = x.p3.n := by rw [← hx.h3.len, ← hy.h3.len]
  have e4 : y.p4.n = x.p4.n := by rw [← hx.h4.len, ← hy.h4.len]
  obtain ⟨W0, hW0⟩ : ∃ W, W = w.alloc (.cells #[.slice x.p1.a x.p1.n x.p1.c, .slice x.p2.a x.p2.n x.p2.c, .slice x.p3.a x.p3.n x.p3.c, .slice x.p4.a x.p4.n x.p4.c] 29) := ⟨_, rfl⟩
  have hs0 : W0.heap.size = w.heap.size + 1 := by rw [hW0]; simp
  rw [← hW0] at hb1 HX hx1 hy1
  have hb2 : Below W0.heap.size W0 (W0.alloc (.cells #[.slice y.p1.a y.p1.n y.p1.c, .slice y.p2.a y.p2.n y.p2.c, .slice y.p3.a y.p3.n y.p3.c, .slice y.p4.a y.p4.n y.p4.c] 29)) := (Below.refl _ _).alloc (Nat.le_refl _) _
  have HY := DBox.new W0 y
  have H : Hid (∃ b c, b = w.heap.size ∧ c = w.heap.size + 1 ∧ DBox (W0.alloc (.cells #[.slice y.p1.a y.p1.n y.p1.c, .slice y.p2.a y.p2.n y.p2.c, .slice y.p3.a y.p3.n y.p3.c, .slice y.p4.a y.p4.n y.p4.c] 29)) b x ∧ DBox (W0.alloc (.cells #[.slice y.p1.a y.p1.n y.p1.c, .slice y.p2.a y.p2.n y.p2.c, .slice y.p3.a y.p3.n y.p3.c, .slice y.p4.a y.p4.n y.p4.c] 29)) c y ∧
      DRd (W0.alloc (.cells #[.slice y.p1.a y.p1.n y.p1.c, .slice y.p2.a y.p2.n y.p2.c, .slice y.p3.a y.p3.n y.p3.c, .slice y.p4.a y.p4.n y.p4.c] 29)) x d ∧ DRd (W0.alloc (.cells #[.slice y.p1.a y.p1.n y.p1.c, .slice y.p2.a y.p2.n y.p2.c, .slice y.p3.a y.p3.n y.p3.c, .slice y.p4.a y.p4.n y.p4.c] 29)) y d ∧ Below w.heap.size w (W0.alloc (.cells #[.slice y.p1.a y.p1.n y.p1.c, .slice y.p2.a y.p2.n y.p2.c, .slice y.p3.a y.p3.n y.p3.c, .slice y.p4.a y.p4.n y.p4.c] 29))) :=
    ⟨w.heap.size, w.heap.size + 1, rfl, rfl, HX.below hb2, by rw [← hs0]; exact HY, hx1.below hb2, hy1.below hb2, hb1.trans (hb2.mono hb1.size)⟩
  clear hx hy hb1 HX hx1 hy1 hb2 HY hs0
  rw [hW0] at H
  clear hW0 W0
  obtain ⟨⟨a1, n1, k1⟩, ⟨a2, n2, k2⟩, ⟨a3, n3, k3⟩, ⟨a4, n4, k4⟩⟩ := x
  obtain ⟨⟨b1, m1, j1⟩, ⟨b2, m2, j2⟩, ⟨b3, m3, j3⟩, ⟨b4, m4, j4⟩⟩ := y
  simp only at e1 e2 e3 e4 H ⊢
  subst e1 e2 e3 e4
  go_enter Tryz.func21, Tryz.ntmps21
  go_upto_region 1 with fail
  generalize ((w.alloc (.cells #[.slice a1 m1 k1, .slice a2 m2 k2, .slice a3 m3 k3, .slice a4 m4 k4] 29)).alloc (.cells #[.slice b1 m1 j1, .slice b2 m2 j2, .slice b3 m3 j3, .slice b4 m4 j4] 29)) = W1 at *
  obtain ⟨b, b', hb, hb', X, Y, DX, DY, BB⟩ := H.out
  clear H
  rw [← hb]
  rw [← hb] at hb'
  subst hb'
  have Hb : Hid (b = w.heap.size) := hb
  clear hb
  have H : Hid (SdSt w W1 b ⟨⟨a1, m1, k1⟩, ⟨a2, m2, k2⟩, ⟨a3, m3, k3⟩, ⟨a4, m4, k4⟩⟩ ⟨⟨b1, m1, j1⟩, ⟨b2, m2, j2⟩, ⟨b3, m3, j3⟩, ⟨b4, m4, j4⟩⟩ d) := ⟨X, Y, DX, DY, BB⟩
  clear X Y DX DY BB
  have x0 := H.out.1.1
  have x1 := H.out.1.2.1
  have x2 := H.out.1.2.2.1
  have y0 := H.out.2.1.1
  have y1 := H.out.2.1.2.1
  have y2 := H.out.2.1.2.2.1
  simp only at x0 x1 x2 y0 y1 y2
  go_wp2_with fail
  refine (sameT_yes a3 b3 m3 k3 j3 d.ts W1 H.out.2.2.1.h3.rd H.out.2.2.2.1.h3.rd H.out.2.2.1.h3.len (Nat.le_trans H.out.2.2.1.h3.cap.1 H.out.2.2.1.h3.cap.2)).mono ?_
  rintro e W2 ⟨rfl, H2⟩
  have H' : Hid (SdSt w W2 b ⟨⟨a1, m1, k1⟩, ⟨a2, m2, k2⟩, ⟨a3, m3, k3⟩, ⟨a4, m4, k4⟩⟩ ⟨⟨b1, m1, j1⟩, ⟨b2, m2, j2⟩, ⟨b3, m3, j3⟩, ⟨b4, m4, j4⟩⟩ d) := H.out.go H2.out
  clear H2 H x0 x1 x2 y0 y1 y2
  have x3 := H'.out.1.2.2.2.1
  have y3 := H'.out.2.1.2.2.2.1
  simp only at x3 y3
  go_wp2_with fail
  refine (same_yes a4 b4 m4 k4 j4 d.raw W2 H'.out.2.2.1.h4.rd H'.out.2.2.2.1.h4.rd H'.out.2.2.1.h4.len).mono ?_
  rintro e W3 ⟨rfl, rfl⟩
  clear x3 y3
  have hn1 : d.ns.length = m1 := H'.out.2.2.1.h1.len
  have hn2 : d.us.length = m2 := H'.out.2.2.1.h2.len
  have hm1 : m1 ≤ 9223372036854775807 := Nat.le_trans H'.out.2.2.1.h1.cap.1 H'.out.2.2.1.h1.cap.2
  have hm2 : m2 ≤ 9223372036854775807 := Nat.le_trans H'.out.2.2.1.h2.cap.1 H'.out.2.2.1.h2.cap.2
  have HN : Hid (d.ns.length = m1 ∧ d.us.length = m2) := ⟨hn1, hn2⟩
  clear hn1 hn2
  go_wp2_with fail
  go_loopw [5] (fun v wr => ∃ k : Nat, k ≤ m1 ∧ v = .int .i64 (k : Int) ∧ Hid (SdSt w wr b ⟨⟨a1, m1, k1⟩, ⟨a2, m2, k2⟩, ⟨a3, m3, k3⟩, ⟨a4, m4, k4⟩⟩ ⟨⟨b1, m1, j1⟩, ⟨b2, m2, j2⟩, ⟨b3, m3, j3⟩, ⟨b4, m4, j4⟩⟩ d)) (fun v _ => m1 - (intOf v).toNat)
  case atStart => exact ⟨0, Nat.zero_le _, rfl, H'⟩
  case round =>
    obtain ⟨k, hk, rfl, H⟩ := hrel
    clear H'
    have x0 := H.out.1.1
    have y0 := H.out.2.1.1
    simp only at x0 y0
    by_cases hlt : k < m1
    · have hlt' : (k : Int) < (m1 : Int) := by omega
      have hki : k < d.ns.length := by rw [HN.out.1]; exact hlt
      obtain ⟨B1, o1, ha1, hl1, z1, hz1, hr1⟩ := H.out.2.2.1.h1.at k hki
      obtain ⟨B2, o2, ha2, hl2, z2, hz2, hr2⟩ := H.out.2.2.2.1.h1.at k hki
      simp only at ha1 ha2
      subst ha1 ha2
      have ez : z2.n = z1.n := by rw [← hr1.len, ← hr2.len]
      rw [ez] at hz2
      have KS : Hid (∀ W', Below wr.heap.size wr W' → Calls Tryz.prog 51 #[.slice z1.a z1.n z1.c, .slice z2.a z1.n z2.c] W' fun e w' => e = .returned (.bool true) ∧ Hid (Below W'.heap.size W' w')) :=
        fun W' hb => sameN_yes z1.a z2.a z1.n z1.c z2.c d.ns[k] W' (hr1.rd.below hb) (hr2.rd.below hb) hr1.len (Nat.le_trans hr1.cap.1 hr1.cap.2)
      have HBx : Hid (Below wr.heap.size wr wr.drew) := (Below.refl _ _).drew
      have hbx := H.out.1.2.2.2.2
      have hby := H.out.2.1.2.2.2.2
      clear hr1 hr2 ez
      generalize z1.a = za1 at *
      generalize z1.n = zn1 at *
      generalize z1.c = zc1 at *
      generalize z2.a = za2 at *
      generalize z2.c = zc2 at *
      go_wp2_with fail
      go_region_held3 (fun W => W.cell? ⟨b, 0, none⟩ = some (.slice (some ⟨B1, o1, none⟩) m1 k1) ∧ W.cell? ⟨b + 1, 0, none⟩ = some (.slice (some ⟨B2, o2, none⟩) m1 j1) ∧ W.cell? ⟨B1, o1 + k, none⟩ = some (.slice za1 zn1 zc1) ∧ W.cell? ⟨B2, o2 + k, none⟩ = some (.slice za2 zn1 zc2)) (go_keep) (first
        | (go_at_call 51; refine (KS.out _ HBx.out).mono ?_; rintro e wy ⟨rfl, HY⟩; have q0 : wy.cell? ⟨b, 0, none⟩ = some (.slice (some ⟨B1, o1, none⟩) m1 k1) := (HY.out.cell (p := ⟨b, 0, none⟩) hbx).trans x0; have q1 : wy.cell? ⟨b + 1, 0, none⟩ = some (.slice (some ⟨B2, o2, none⟩) m1 j1) := (HY.out.cell (p := ⟨b + 1, 0, none⟩) hby).trans y0; have q2 : wy.cell? ⟨B1, o1 + k, none⟩ = some (.slice za1 zn1 zc1) := (HY.out.cell (p := ⟨B1, o1 + k, none⟩) hl1).trans hz1; have q3 : wy.cell? ⟨B2, o2 + k, none⟩ = some (.slice za2 zn1 zc2) := (HY.out.cell (p := ⟨B2, o2 + k, none⟩) hl2).trans hz2))
      have H2 : Hid (SdSt w wy b ⟨⟨some ⟨B1, o1, none⟩, m1, k1⟩, ⟨a2, m2, k2⟩, ⟨a3, m3, k3⟩, ⟨a4, m4, k4⟩⟩ ⟨⟨some ⟨B2, o2, none⟩, m1, j1⟩, ⟨b2, m2, j2⟩, ⟨b3, m3, j3⟩, ⟨b4, m4, j4⟩⟩ d) := H.out.go (HBx.out.trans HY.out)
      clear q0 q1 q2 q3 x0 y0 hz1 hz2 HY KS H HBx
      go_wp2_with fail
      exact ⟨⟨k + 1, by omega, by go_num, H2⟩, by simp [intOf]; omega⟩
    · have hge : ¬ (k : Int) < (m1 : Int) := by omega
      go_wp2_with fail
      obtain ⟨wz, hz⟩ : ∃ z, z = wr := ⟨_, rfl⟩
      subst hz
      clear x0 y0
      go_loopw [6] (fun v wr => ∃ k : Nat, k ≤ m2 ∧ v = .int .i64 (k : Int) ∧ Hid (SdSt w wr b ⟨⟨a1, m1, k1⟩, ⟨a2, m2, k2⟩, ⟨a3, m3, k3⟩, ⟨a4, m4, k4⟩⟩ ⟨⟨b1, m1, j1⟩, ⟨b2, m2, j2⟩, ⟨b3, m3, j3⟩, ⟨b4, m4, j4⟩⟩ d)) (fun v _ => m2 - (intOf v).toNat)
      case atStart => exact ⟨0, Nat.zero_le _, rfl, H⟩
      case round =>
        obtain ⟨i, hi, rfl, H'⟩ := hrel
        clear H
        have x1 := H'.out.1.2.1
        have y1 := H'.out.2.1.2.1
        simp only at x1 y1
        by_cases hit : i < m2
        · have hit' : (i : Int) < (m2 : Int) := by omega
          have hii : i < d.us.length := by rw [HN.out.2]; exact hit
          obtain ⟨B1, o1, ha1, hl1, hz1⟩ := H'.out.2.2.1.h2.at i hii
          obtain ⟨B2, o2, ha2, hl2, hz2⟩ := H'.out.2.2.2.1.h2.at i hii
          simp only at ha1 ha2
          subst ha1 ha2
          generalize d.us[i] = u at *
          go_wp2_with fail
          go_quiet (fail)
          have H2 : Hid (SdSt w (wr.drewN nq) b ⟨⟨a1, m1, k1⟩, ⟨some ⟨B1, o1, none⟩, m2, k2⟩, ⟨a3, m3, k3⟩, ⟨a4, m4, k4⟩⟩ ⟨⟨b1, m1, j1⟩, ⟨some ⟨B2, o2, none⟩, m2, j2⟩, ⟨b3, m3, j3⟩, ⟨b4, m4, j4⟩⟩ d) := H'.out.go ⟨rfl, rfl, rfl, Nat.le_refl _, fun _ _ => rfl⟩
          clear x1 y1 hz1 hz2 H'
          generalize wr.drewN nq = Wq at *
          go_wp2_with fail
          exact ⟨⟨i + 1, by omega, by go_num, H2⟩, by simp [intOf]; omega⟩
        · have hige : ¬ (i : Int) < (m2 : Int) := by omega
          go_wp2_with fail
          go_ret
          exact ⟨rfl, H'.out.2.2.2.2⟩
end Go.Proofs.YtfkfjodfjgjbkaaGreatDoor
/- What the document's examples say, at the head of each statement. -/
namespace Go.Proofs.YtfkfjodfjgjbkaaGreatDoor
open Go.ChangeShapes Go.WideShapes Go.ChangeAt Go.RowKit
set_option linter.unusedVariables false
set_option linter.unusedSimpArgs false


theorem rdv_new (w : World) (xs : List Value) (t : TypeId) : RdV (w.alloc (.cells xs.toArray t)) (some ⟨w.heap.size, 0, none⟩) xs := by
  refine .inr ⟨w.heap.size, 0, rfl, by simp, fun i hi => ?_⟩
  rw [Nat.zero_add]
  exact (show BlkV (w.alloc (.cells xs.toArray t)) w.heap.size t xs from heap_alloc_new _ _).cell i hi
theorem new_u (w : World) (us : List Nat) (n : Nat) (hn : us.length = n) (hm : n ≤ 1000) (hb : ∀ x ∈ us, x ≤ 4294967295) : URd (w.alloc (.cells (uv us).toArray 70)) ⟨some ⟨w.heap.size, 0, none⟩, n, n⟩ us :=
  ⟨rdv_new w (uv us) 70, hn, ⟨Nat.le_refl _, by simp only; omega⟩, by simp, hb⟩
theorem new_t (w : World) (ss : List ByteArray) (n : Nat) (hn : ss.length = n) (hm : n ≤ 1000) (hb : ∀ x ∈ ss, x.size ≤ 9223372036854775807) : TRd (w.alloc (.cells (tv ss).toArray 9)) ⟨some ⟨w.heap.size, 0, none⟩, n, n⟩ ss :=
  ⟨rdv_new w (tv ss) 9, hn, ⟨Nat.le_refl _, by simp only; omega⟩, by simp, hb⟩
theorem new_n1 (w : World) (s : Sl) (nm : List ByteArray) (h : TRd w s nm) : NRd (w.alloc (.cells #[.slice s.a s.n s.c] 45)) ⟨some ⟨w.heap.size, 0, none⟩, 1, 1⟩ [nm] := by
  refine ⟨.inr ⟨w.heap.size, 0, rfl, by simp, fun i hi => ?_⟩, rfl, ⟨Nat.le_refl _, by simp⟩, by simp⟩
  have : i = 0 := by simp at hi; omega
  subst this
  exact ⟨s, (show BlkV (w.alloc (.cells [Value.slice s.a s.n s.c].toArray 45)) w.heap.size 45 [Value.slice s.a s.n s.c] from heap_alloc_new _ _).cell 0 (by simp), h.below (new_below _ _)⟩
theorem new_b (w : World) (zs : List Int) (n : Nat) (hn : zs.length = n) (hm : n ≤ 1000) (hb : ∀ z ∈ zs, 0 ≤ z ∧ z ≤ 255) : BRd (w.alloc (.cells (zs.map (Value.int .u8)).toArray 5)) ⟨some ⟨w.heap.size, 0, none⟩, n, n⟩ zs := by
  refine ⟨⟨?_, hb⟩, hn, ⟨Nat.le_refl _, by simp only; omega⟩, by simp⟩
  have hblk : Blk (w.alloc (.cells (zs.map (Value.int .u8)).toArray 5)) w.heap.size zs := ⟨heap_alloc_new _ _, hb⟩
  exact .inr ⟨w.heap.size, 0, rfl, hblk.lt, fun i hi => by rw [Nat.zero_add]; exact hblk.cell i hi⟩
/-- What is written is read. -/
theorem readF_write (t : Nat) (d : Dat) (zs : List Int) (hck : checkF t d = 0) (hw : writeF t d = zs) (hl : zs.length ≤ 65535) : readF t zs = (d, 0) := by
  obtain ⟨hm, _, _, _⟩ := check_parts hck
  have := read_write t d hck
  rw [hw] at this
  unfold readF
  rw [if_pos hm, if_pos hl, this]
theorem readF_fail {t : Nat} {zs : List Int} (h : (readF t zs).2 ≠ 0) : (readF t zs).2 = 8 ∨ (readF t zs).2 = 6 := by
  unfold readF at h ⊢
  by_cases h1 : mayT t = true
  · rw [if_pos h1] at h ⊢
    by_cases h2 : zs.length ≤ 65535
    · rw [if_pos h2] at h ⊢
      cases hd : dreadF t zs with
      | none => exact .inl rfl
      | some d => rw [hd] at h; exact absurd rfl h
    · rw [if_neg h2]; exact .inl rfl
  · rw [if_neg h1]; exact .inr rfl
theorem readF_ok {t : Nat} {zs : List Int} (h : (readF t zs).2 = 0) : checkF t (readF t zs).1 = 0 ∧ writeF t (readF t zs).1 = zs ∧ zs.length ≤ 65535 := by
  unfold readF at h ⊢
  by_cases h1 : mayT t = true
  · rw [if_pos h1] at h ⊢
    by_cases h2 : zs.length ≤ 65535
    · rw [if_pos h2] at h ⊢
      cases hd : dreadF t zs with
      | none => rw [hd] at h; cases h
      | some d =>
        have := write_read hd
        exact ⟨this.1, this.2, h2⟩
    · rw [if_neg h2] at h; cases h
  · rw [if_neg h1] at h; cases h
abbrev mxD : Dat := ⟨[[⟨#[97]⟩]], [10], [], []⟩
abbrev txD : Dat := ⟨[], [], [⟨#[97]⟩, ⟨#[]⟩], []⟩
theorem mx_ck : checkF 15 mxD = 0 := by decide +kernel
theorem mx_wr : writeF 15 mxD = [0, 10, 1, 97, 0] := by decide +kernel
theorem tx_ck : checkF 16 txD = 0 := by decide +kernel
theorem tx_wr : writeF 16 txD = [1, 97, 0] := by decide +kernel
theorem tx_rd : readF 16 [1, 97, 0] = (txD, 0) := readF_write 16 txD _ tx_ck tx_wr (by simp)
end Go.Proofs.YtfkfjodfjgjbkaaGreatDoor
/- The reader of words: names. -/
namespace Go.Proofs.YtfkfjodfjgjbkaaGreatDoor
open Go.ChangeShapes Go.WideShapes Go.ChangeAt Go.RowKit
set_option linter.unusedVariables false
set_option linter.unusedSimpArgs false

set_option maxRecDepth 100000 in
set_option maxHeartbeats 2000000 in
theorem bare_ok (w0 w : World) (wa : Option Addr) (s : ByteArray) (r : List Wd) (c : Nat) (oa : Option Addr) (on oc : Nat) (x : DA) (bad : Bool) (d : Dat) (hw : RdW w0 wa ((s, false) :: r)) (hc : r.length + 1 ≤ c) (h63 : c ≤ 9223372036854775807) (h : RX w0 w wa (r.length + 1) c oa on oc x bad d) :
    Calls Tryz.prog 135 #[.pointer (some ⟨w0.heap.size, 0, none⟩)] w (NxPost s r w0 c oa on oc x bad d) := by
  have K := Lib.hid (next_ok w0 w wa s false r c oa on oc x bad d hw hc h63 h)
  obtain ⟨b, o, rfl, hb, c1, c2, hrr⟩ := hw.head
  have d0 := h.blk.cells.1
  have c2' := (h.bel.cell (p := ⟨b, o + 1, none⟩) hb).trans c2
  clear hw hrr c1 c2 h
  obtain ⟨n, hn⟩ : ∃ n, r.length = n := ⟨_, rfl⟩
  rw [hn] at d0 hc
  clear hn
  have hn0 : (0 : Int) < (n : Int) + 1 := by omega
  go_enter Tryz.func135, Tryz.ntmps135
  go_wp2_with fail
  refine K.out.mono ?_
  rintro e w' ⟨wa', rfl, H1, H2⟩
  go_wp2_with fail
  go_ret
  exact ⟨wa', rfl, H1, H2⟩

theorem wl_st {P : Program} {w : World} {ops : Array Oper} {rest : List Oper} {o : Oper} {a : Act} {Q : Exit → Act → World → Prop} (hgd : o.guard = none)
    (h : ∀ K : Act → World → Prop, (∀ a' w', wpList P ops Q rest a' w' → K a' w') → (if Region.wanted o (yielded ops a.tmps) = true then Oper.wp P o a w K Q else True)) : wpList P ops Q (o :: rest) a w := by
  refine wpList_plain hgd fun K hK => ?_
  have := h K hK
  have hw : Region.wanted o (yielded ops a.tmps) = true := by simp [Region.wanted, hgd]
  rw [if_pos hw] at this
  exact this
theorem RX.grown {w0 w w' : World} {wa : Option Addr} {n c : Nat} {oa : Option Addr} {on oc : Nat} {x : DA} {bad : Bool} {d : Dat} (h : RX w0 w wa n c oa on oc x bad d) {o : Option Nat} (hg : w.grownBy w' o) (ho : ∀ j, o = some j → w0.heap.size + 1 ≤ j) :
    RBk w0 w' wa n c oa on oc x bad ∧ Below w0.heap.size w0 w' :=
  ⟨(hg.block _ h.blk.lt (fun e => by have := ho _ e.symm; omega)).trans h.blk, h.bel.grown hg h.bel.size (fun j e => by have := ho _ e; omega)⟩
theorem RX.app1 {w0 w w' : World} {wa : Option Addr} {n c : Nat} {oa : Option Addr} {on oc : Nat} {x : DA} {bad : Bool} {d : Dat} (h : RX w0 w wa n c oa on oc x bad d) {o : Option Nat} (hg : w.grownBy w' o) (ho : ∀ j, o = some j → w0.heap.size + 1 ≤ j ∧ ∃ zs, BlkV w j 45 zs)
    (t' : Sl) (ns' : List (List ByteArray)) (hN : OwnN (w0.heap.size + 1) w' (.slice t'.a t'.n t'.c) ns') : RX w0 (w'.setCell ⟨w0.heap.size, 2, none⟩ (.slice t'.a t'.n t'.c)) wa n c oa on oc ⟨t', x.p2, x.p3, x.p4⟩ bad ⟨ns', d.us, d.ts, d.raw⟩ := by
  obtain ⟨h1, h2⟩ := h.grown hg (fun j e => (ho j e).1)
  have hk : ∀ j, w0.heap.size + 1 ≤ j → j < w'.heap.size → (w'.setCell ⟨w0.heap.size, 2, none⟩ (.slice t'.a t'.n t'.c)).heap[j]? = w'.heap[j]? := fun j hj _ => Below.heap_setCell _ _ _ j (by show j ≠ w0.heap.size; omega)
  have h4 : BOwn (w0.heap.size + 1) w' x.p4 d.raw := by
    obtain ⟨ys, q1, q2⟩ := h.own.2.2.2
    refine ⟨ys, ?_, q2⟩
    rcases q1 with q | ⟨g, e1, e2, e3, e4⟩
    · exact .inl q
    · refine .inr ⟨g, e1, e2, e3.same (hg.block g e3.lt (fun e => ?_)), e4⟩
      obtain ⟨zs, hz⟩ := (ho g e.symm).2
      have := hz.symm.trans e3.1
      simp at this
  exact ⟨h1.set2 t', ⟨hN.keep hk, (h.own.2.1.offTy ⟨o, hg, ho⟩).keep hk, (h.own.2.2.1.offTy ⟨o, hg, ho⟩).keep (fun j a b _ => hk j a b), h4.keep hk⟩, h2.setCell (show w0.heap.size ≤ (⟨w0.heap.size, 2, none⟩ : Addr).block from Nat.le_refl _) _⟩
theorem RX.bad {w0 w : World} {wa : Option Addr} {n c : Nat} {oa : Option Addr} {on oc : Nat} {x : DA} {bad : Bool} {d : Dat} (h : RX w0 w wa n c oa on oc x bad d) (b : Bool) : RX w0 (w.setCell ⟨w0.heap.size, 6, none⟩ (.bool b)) wa n c oa on oc x b d :=
  have H := h.set 6 _ (h.blk.set6 b)
  ⟨H.1, H.2.1, H.2.2⟩
theorem new_ownN (B : Nat) (w : World) (s : Sl) (nm : List ByteArray) (h : Own1 B w s nm) (hB : B ≤ w.heap.size) : OwnN B (w.alloc (.cells #[.slice s.a s.n s.c] 45)) (.slice (some ⟨w.heap.size, 0, none⟩) 1 1) [nm] := by
  refine ⟨[.slice s.a s.n s.c], .inr ⟨w.heap.size, rfl, hB, heap_alloc_new _ _, Nat.le_refl _, by simp [maxLen]⟩, fun i hi => ?_⟩
  have : i = 0 := by simp at hi; omega
  subst this
  exact ⟨s, rfl, h.stays (new_below _ _)⟩
/-- Words are taken, and what they say is there. -/
def TkPost (w0 : World) (c : Nat) (oa : Option Addr) (on oc : Nat) (r : List Wd) (d : Dat) (e : Ending) (w' : World) : Prop :=
  ∃ v wa x, e = .returned v ∧ Hid (RdW w0 wa r) ∧ Hid (RX w0 w' wa r.length c oa on oc x false d)
theorem drop_get {α : Type} {l : List α} {k : Nat} {x : α} {r : List α} (h : l.drop k = x :: r) : k < l.length ∧ r = l.drop (k + 1) ∧ r.length + 1 = l.length - k := by
  have h1 : (l.drop k).length = r.length + 1 := by rw [h]; rfl
  rw [List.length_drop] at h1
  refine ⟨by omega, ?_, by omega⟩
  have : l.drop (k + 1) = (l.drop k).drop 1 := by rw [List.drop_drop]
  rw [this, h]; rfl
set_option maxRecDepth 100000 in
set_option maxHeartbeats 4000000 in
theorem names_ok (w0 w : World) (wa : Option Addr) (ws : List Wd) (N c : Nat) (oa : Option Addr) (on oc : Nat) (og : List ByteArray) (x : DA) (d : Dat) (nms : List (List ByteArray)) (hN : nms.length = N) (hd : d.ns.length + N ≤ 1000)
    (HI : ∀ k (h : k < N), ∃ s r nm, ws.drop k = (s, false) :: r ∧ s.size ≤ 1000000000 ∧ nrel s og = (nm, 0) ∧ nms[k]? = some nm) (hw : RdW w0 wa ws) (hc : ws.length ≤ c) (h63 : c ≤ 9223372036854775807) (hog : Nm w0 oa on og) (h : RX w0 w wa ws.length c oa on oc x false d) :
    Calls Tryz.prog 118 #[.pointer (some ⟨w0.heap.size, 0, none⟩), .int .i64 (N : Int)] w (TkPost w0 (c - N) oa on oc (ws.drop N) ⟨d.ns ++ nms, d.us, d.ts, d.raw⟩) := by
  have HH : Hid (∀ k (h : k < N), ∃ s r nm, ws.drop k = (s, false) :: r ∧ s.size ≤ 1000000000 ∧ nrel s og = (nm, 0) ∧ nms[k]? = some nm) := HI
  have HN : Hid (nms.length = N) := hN
  have H0 : Hid (RdW w0 wa ws ∧ ws.length ≤ c ∧ Nm w0 oa on og ∧ RX w0 w wa ws.length c oa on oc x false d) := ⟨hw, hc, hog, h⟩
  have hN1 : N ≤ 1000 := by omega
  have HD : Hid (d.ns.length + N ≤ 1000) := hd
  clear HI hN hw hc hog h hd
  go_enter Tryz.func118, Tryz.ntmps118
  go_wp2_with fail
  go_loopw [7] (fun y wr => ∃ k : Nat, k ≤ N ∧ y = .int .i64 k ∧ Hid (∃ wa' x', RdW w0 wa' (ws.drop k) ∧ RX w0 wr wa' (ws.drop k).length (c - k) oa on oc x' false ⟨d.ns ++ nms.take k, d.us, d.ts, d.raw⟩)) (fun y _ => N - (intOf y).toNat)
  case atStart => exact ⟨0, Nat.zero_le _, rfl, wa, x, H0.out.1, by simpa using H0.out.2.2.2⟩
  case round =>
    obtain ⟨k, hk, rfl, HW⟩ := hrel
    by_cases hlt : k < N
    · have hlt' : (k : Int) < (N : Int) := by omega
      obtain ⟨s, r, nm, hdr, hsz, hrel, hnm⟩ := HH.out k hlt
      obtain ⟨wa', x', h1, h2⟩ := HW.out
      obtain ⟨q1, q2, q3⟩ := drop_get hdr
      have hcc := H0.out.2.1
      rw [hdr] at h1 h2
      have KB : Hid (∀ W, RX w0 W wa' (r.length + 1) (c - k) oa on oc x' false ⟨d.ns ++ nms.take k, d.us, d.ts, d.raw⟩ → Calls Tryz.prog 135 #[.pointer (some ⟨w0.heap.size, 0, none⟩)] W (NxPost s r w0 (c - k) oa on oc x' false ⟨d.ns ++ nms.take k, d.us, d.ts, d.raw⟩)) := fun W hW => bare_ok w0 W wa' s r (c - k) oa on oc x' false _ h1 (by omega) (by omega) hW
      have HX : Hid (RX w0 wr wa' (r.length + 1) (c - k) oa on oc x' false ⟨d.ns ++ nms.take k, d.us, d.ts, d.raw⟩) := h2
      have HXd : Hid (RX w0 wr.drew wa' (r.length + 1) (c - k) oa on oc x' false ⟨d.ns ++ nms.take k, d.us, d.ts, d.raw⟩) := h2.step (Below.refl _ _).drew
      have hkn : k < nms.length := by rw [HN.out]; exact hlt
      have KR : Hid (∀ W, Below w0.heap.size w0 W → Calls Tryz.prog 136 #[.string s, .slice oa on oc] W (NPost nm 0 W)) := fun W hW => by
        have := prel_any s oa on oc og W hsz (H0.out.2.2.1.below hW)
        rw [hrel] at this
        exact this
      have HT : Hid (nms.take (k + 1) = nms.take k ++ [nm]) := by show _ = _; rw [List.take_add_one, hnm]; rfl
      have HQ : Hid (r = ws.drop (k + 1) ∧ c - k - 1 = c - (k + 1)) := ⟨q2, by omega⟩
      have HL : Hid ((d.ns ++ nms.take k).length + 1 ≤ 1000) := by
        have := HD.out
        show _ ≤ _
        rw [List.length_append, List.length_take]; omega
      have o1 : wr.cell? ⟨w0.heap.size, 1, none⟩ = some (.slice oa on oc) := h2.blk.cells.2.1
      generalize nms.take k = nmk at *
      clear h1 h2 hdr hsz hrel q1 q2 q3 hcc HW hkn hnm
      go_wp2_with fail
      go_region_held3 (fun W => W.cell? ⟨w0.heap.size, 1, none⟩ = some (.slice oa on oc)) (go_keep) (first
        | (go_at_call 135; refine (KB.out _ HXd.out).mono ?_; rintro e w1 ⟨wb, rfl, H1, H2⟩; have e1 : w1.cell? ⟨w0.heap.size, 1, none⟩ = some (.slice oa on oc) := H2.out.blk.cells.2.1)
        | (go_at_call 136; refine (KR.out _ H2.out.bel).mono ?_; rintro e w2 ⟨v2, ys, rfl, H3⟩; have f1 : w2.cell? ⟨w0.heap.size, 1, none⟩ = some (.slice oa on oc) := (H2.out.step H3.out.2.2).blk.cells.2.1))
      all_goals
        obtain ⟨ao, rfl, -⟩ := H3.out.1.shape
        have HA : Hid (RX w0 w2 wb r.length (c - k - 1) oa on oc x' false ⟨d.ns ++ nmk, d.us, d.ts, d.raw⟩) := H2.out.step H3.out.2.2
        have HO : Hid (Own1 (w0.heap.size + 1) w2 ⟨ao, nm.length, ys.length⟩ nm) := ⟨ys, H3.out.1.mono H2.out.blk.lt, H3.out.2.1⟩
        clear KB KR HX HXd H2 H3 e1 o1
        have d6 : w2.cell? ⟨w0.heap.size, 6, none⟩ = some (.bool false) := HA.out.blk.cells.2.2.2.2.2.2
        have d2 : w2.cell? ⟨w0.heap.size, 2, none⟩ = some (.slice x'.p1.a x'.p1.n x'.p1.c) := HA.out.blk.cells.2.2.1
        have f6 := HA.out.blk.fz 6
        have f2 := HA.out.blk.fz 2
        have HS : Hid (RX w0 ((w2.setCell ⟨w0.heap.size, 6, none⟩ (.bool false)).alloc (.cells #[.slice ao nm.length ys.length] 45)) wb r.length (c - k - 1) oa on oc x' false ⟨d.ns ++ nmk, d.us, d.ts, d.raw⟩) := (HA.out.bad false).step (new_below _ _)
        have HO1 : Hid (OwnN (w0.heap.size + 1) ((w2.setCell ⟨w0.heap.size, 6, none⟩ (.bool false)).alloc (.cells #[.slice ao nm.length ys.length] 45)) (.slice (some ⟨w2.heap.size, 0, none⟩) 1 1) [nm]) := by
          have := new_ownN (w0.heap.size + 1) (w2.setCell ⟨w0.heap.size, 6, none⟩ (.bool false)) ⟨ao, nm.length, ys.length⟩ nm (HO.out.keep (fun j hj _ _ => Below.heap_setCell _ _ _ j (by show j ≠ w0.heap.size; omega))) (by rw [World.size_setCell]; exact HA.out.blk.lt)
          rw [World.size_setCell] at this
          exact this
        have HB : Hid (w0.heap.size + 1 ≤ ((w2.setCell ⟨w0.heap.size, 6, none⟩ (.bool false)).alloc (.cells #[.slice ao nm.length ys.length] 45)).heap.size) := HS.out.blk.lt
        go_wp2_with (at_builtin; refine wl_st rfl fun K hK => ?_; refine st_nl rfl _ _ rfl (w0.heap.size + 1) x'.p1 ⟨some ⟨w2.heap.size, 0, none⟩, 1, 1⟩ (d.ns ++ nmk) [nm] rfl rfl HS.out.own.1 HO1.out HL.out HB.out ?_; intro t' w' hO hG; obtain ⟨og', hg1, hg2⟩ := hG.out; have HR := Lib.hid (HS.out.app1 hg1 hg2 t' _ hO.out); have hr := (HS.out.grown hg1 (fun j e => (hg2 j e).1)).1; have g2 := hr.cells.2.2.1; have gf := hr.fz 2; refine hK _ _ ?_)
        refine ⟨⟨k + 1, by omega, by go_num, wb, ⟨t', x'.p2, x'.p3, x'.p4⟩, ?_, ?_⟩, by simp [intOf]; omega⟩
        · rw [← HQ.out.1]; exact H1.out
        · rw [← HQ.out.1, ← HQ.out.2, HT.out, ← List.append_assoc]; exact HR.out
    · have hge : ¬ (k : Int) < (N : Int) := by omega
      have hkn : k = N := by omega
      subst hkn
      go_wp2_with fail
      go_end0
      obtain ⟨wa', x', h1, h2⟩ := HW.out
      have hx : nms.take k = nms := List.take_of_length_le (by rw [HN.out]; exact Nat.le_refl _)
      rw [hx] at h2
      exact ⟨_, wa', x', rfl, h1, h2⟩
end Go.Proofs.YtfkfjodfjgjbkaaGreatDoor
/- The reader at NS; words read. -/
namespace Go.Proofs.YtfkfjodfjgjbkaaGreatDoor
open Go.ChangeShapes Go.WideShapes Go.ChangeAt Go.RowKit
set_option linter.unusedVariables false
set_option linter.unusedSimpArgs false

/-- How a type's words are read, all of them. -/
def RdAll (t : Nat) (w0 : World) (wa : Option Addr) (ws : List Wd) (c : Nat) (oa : Option Addr) (on oc : Nat) (d : Dat) : Prop :=
  ∀ w, RX w0 w wa ws.length c oa on oc nilDA false ⟨[], [], [], []⟩ → Calls Tryz.prog 89 #[.pointer (some ⟨w0.heap.size, 0, none⟩), .int .u16 (t : Int)] w fun e w' => ∃ c', TkPost w0 c' oa on oc [] d e w'
set_option maxRecDepth 100000 in
set_option maxHeartbeats 4000000 in
theorem readNS (t : Nat) (ht : t = 2 ∨ t = 5 ∨ t = 12) (w0 : World) (wa : Option Addr) (s : ByteArray) (c : Nat) (oa : Option Addr) (on oc : Nat) (og nm : List ByteArray) (hs : s.size ≤ 1000000000) (hn : nrel s og = (nm, 0)) (hw : RdW w0 wa [(s, false)]) (hc : 1 ≤ c) (h63 : c ≤ 9223372036854775807) (hog : Nm w0 oa on og) :
    RdAll t w0 wa [(s, false)] c oa on oc ⟨[nm], [], [], []⟩ := by
  intro w h
  have K := Lib.hid (names_ok w0 w wa [(s, false)] 1 c oa on oc og nilDA ⟨[], [], [], []⟩ [nm] rfl (by simp) (fun k hk => by
    have : k = 0 := by omega
    subst this
    exact ⟨s, [], nm, rfl, hs, hn, rfl⟩) hw hc h63 hog h)
  have hcc : c - 1 ≤ 9223372036854775807 := by omega
  clear hw hog h hn
  rcases ht with rfl | rfl | rfl
  all_goals
    go_enter Tryz.func89, Tryz.ntmps89
    go_wp2_with fail
    refine K.out.mono ?_
    rintro e w' ⟨v, wa', x', rfl, H1, H2⟩
    go_wp2_with fail
    go_end0
    exact ⟨c - 1, _, wa', x', rfl, H1, H2⟩
theorem start_rx (w : World) (wa : Option Addr) (n c : Nat) (oa : Option Addr) (on oc : Nat) : RX w (w.alloc (.cells #[.slice wa n c, .slice oa on oc, .slice none 0 0, .slice none 0 0, .slice none 0 0, .slice none 0 0, .bool false] 125)) wa n c oa on oc nilDA false ⟨[], [], [], []⟩ :=
  ⟨heap_alloc_new _ _, ⟨OwnN.nil _ _, ⟨[], OwnV.nil _ _ _, rfl, by simp, by simp⟩, ⟨[], OwnT.nil _ _ _, rfl⟩, ⟨[], .inl ⟨rfl, rfl, rfl⟩, rfl⟩⟩, new_below _ _⟩
theorem rx_facts {w w1 : World} {wa : Option Addr} {n c : Nat} {oa : Option Addr} {on oc : Nat} {x : DA} {bad : Bool} {d : Dat} (h : RX (w.alloc (.cells #[.slice none 0 0, .slice none 0 0, .slice none 0 0, .slice none 0 0] 29)) w1 wa n c oa on oc x bad d) :
    (w1.cell? ⟨w.heap.size + 1, 0, none⟩ = some (.slice wa n c) ∧ w1.cell? ⟨w.heap.size + 1, 2, none⟩ = some (.slice x.p1.a x.p1.n x.p1.c) ∧ w1.cell? ⟨w.heap.size + 1, 3, none⟩ = some (.slice x.p2.a x.p2.n x.p2.c) ∧ w1.cell? ⟨w.heap.size + 1, 4, none⟩ = some (.slice x.p3.a x.p3.n x.p3.c) ∧ w1.cell? ⟨w.heap.size + 1, 5, none⟩ = some (.slice x.p4.a x.p4.n x.p4.c) ∧ w1.cell? ⟨w.heap.size + 1, 6, none⟩ = some (.bool bad)) ∧
    DBlk w1 w.heap.size nilDA ∧ Below w.heap.size w w1 ∧ DOwn (w.heap.size + 2) w1 x d := by
  have hsz : (w.alloc (.cells #[.slice none 0 0, .slice none 0 0, .slice none 0 0, .slice none 0 0] 29)).heap.size = w.heap.size + 1 := by simp
  have h1 := h.blk.cells
  have h2 := h.bel.block w.heap.size (by rw [hsz]; omega)
  have h3 := h.own
  have h4 := h.bel
  rw [hsz] at h1 h3 h4
  exact ⟨⟨h1.1, h1.2.2.1, h1.2.2.2.1, h1.2.2.2.2.1, h1.2.2.2.2.2.1, h1.2.2.2.2.2.2⟩, h2.trans (heap_alloc_new _ _), (new_below w _).trans (h4.mono (by omega)), h3⟩
set_option maxRecDepth 100000 in
set_option maxHeartbeats 4000000 in
theorem read_ok (t : Nat) (a : Option Addr) (ws : List Wd) (c : Nat) (oa : Option Addr) (on oc : Nat) (d : Dat) (w : World) (hne : ws.head? ≠ some (⟨#[92, 35]⟩, false)) (hw : RdW w a ws)
    (h : ∀ w0, Below w.heap.size w w0 → RdAll t w0 a ws c oa on oc d) :
    Calls Tryz.prog 61 #[.int .u16 (t : Int), .slice a ws.length c, .slice oa on oc] w fun e w' => ∃ x : DA, e = .returned (.tuple #[.agg #[.slice x.p1.a x.p1.n x.p1.c, .slice x.p2.a x.p2.n x.p2.c, .slice x.p3.a x.p3.n x.p3.c, .slice x.p4.a x.p4.n x.p4.c], .bool true]) ∧ Hid (DOwn w.heap.size w' x d ∧ Below w.heap.size w w') := by
  have HZ : Hid (Below w.heap.size w (w.alloc (.cells #[.slice none 0 0, .slice none 0 0, .slice none 0 0, .slice none 0 0] 29)) ∧ DBlk (w.alloc (.cells #[.slice none 0 0, .slice none 0 0, .slice none 0 0, .slice none 0 0] 29)) w.heap.size nilDA) := ⟨new_below _ _, heap_alloc_new _ _⟩
  have hsz0 : (w.alloc (.cells #[.slice none 0 0, .slice none 0 0, .slice none 0 0, .slice none 0 0] 29)).heap.size = w.heap.size + 1 := by simp
  have K := Lib.hid (h _ HZ.out.1 _ (start_rx (w.alloc (.cells #[.slice none 0 0, .slice none 0 0, .slice none 0 0, .slice none 0 0] 29)) a ws.length c oa on oc))
  rw [hsz0] at K
  clear h
  have hcase : ws = [] ∨ ∃ s q r b o, ws = (s, q) :: r ∧ a = some ⟨b, o, none⟩ ∧ b < w.heap.size ∧ w.cell? ⟨b, o, none⟩ = some (.string s) ∧ w.cell? ⟨b, o + 1, none⟩ = some (.bool q) ∧ ((s.toList = [92, 35] ∧ q = true) ∨ (s.toList == [92, 35]) = false) := by
    cases ws with
    | nil => exact .inl rfl
    | cons y r =>
      obtain ⟨s, q⟩ := y
      obtain ⟨b, o, e, hb, c1, c2, hrr⟩ := hw.head
      refine .inr ⟨s, q, r, b, o, rfl, e, hb, c1, c2, ?_⟩
      by_cases hq : s.toList = [92, 35]
      · refine .inl ⟨hq, ?_⟩
        cases q with
        | true => rfl
        | false =>
          exfalso
          apply hne
          have : s = ⟨#[92, 35]⟩ := by
            have h2 : s.data.toList = [92, 35] := by rw [← Lib.toList_data]; exact hq
            cases s with | mk da => simp at h2; rw [show da = #[92, 35] from by rw [← Array.toArray_toList (xs := da), h2]]
          rw [this]; rfl
      · right; simpa using hq
  clear hne hw
  generalize hlen : ws.length = len at K ⊢
  rcases hcase with rfl | ⟨s, q, r, b, o, rfl, rfl, hbs, c1, c2, hs | hs⟩
  · simp at hlen
    subst hlen
    go_enter Tryz.func61, Tryz.ntmps61
    go_wp2_with fail
    refine K.out.mono ?_
    rintro e w1 ⟨c', v, wa, x, rfl, H1, H2⟩
    obtain ⟨⟨d0, d2, d3, d4, d5, d6⟩, k1, k2, k3⟩ := rx_facts H2.out
    have HK : Hid (DBlk w1 w.heap.size nilDA ∧ Below w.heap.size w w1 ∧ DOwn (w.heap.size + 2) w1 x d) := ⟨k1, k2, k3⟩
    have er0 := k1.box.1
    have er1 := k1.box.2.1
    have er2 := k1.box.2.2.1
    have er3 := k1.box.2.2.2.1
    have ez0 := k1.fz 0
    have ez1 := k1.fz 1
    have ez2 := k1.fz 2
    have ez3 := k1.fz 3
    simp only at er0 er1 er2 er3
    simp only [List.length_nil] at d0
    have hne1 : ¬ w.heap.size = w.heap.size + 1 := by omega
    clear k1 k2 k3 H1 H2 K HZ hsz0
    go_wp2_with fail
    go_region_held3 (fun W => W.cell? ⟨w.heap.size + 1, 0, none⟩ = some (.slice wa 0 c') ∧ W.cell? ⟨w.heap.size + 1, 2, none⟩ = some (.slice x.p1.a x.p1.n x.p1.c) ∧ W.cell? ⟨w.heap.size + 1, 3, none⟩ = some (.slice x.p2.a x.p2.n x.p2.c) ∧ W.cell? ⟨w.heap.size + 1, 4, none⟩ = some (.slice x.p3.a x.p3.n x.p3.c) ∧ W.cell? ⟨w.heap.size + 1, 5, none⟩ = some (.slice x.p4.a x.p4.n x.p4.c) ∧ W.cell? ⟨w.heap.size + 1, 6, none⟩ = some (.bool false)) (exact ⟨by go_keep, by go_keep, by go_keep, by go_keep, by go_keep, by go_keep⟩) (fail)
    all_goals
      go_wp2_with fail
      have HX : Hid (DBlk (((((w1.setCell ⟨w.heap.size, 0, none⟩ (.slice x.p1.a x.p1.n x.p1.c)).setCell ⟨w.heap.size, 1, none⟩ (.slice x.p2.a x.p2.n x.p2.c)).setCell ⟨w.heap.size, 2, none⟩ (.slice x.p3.a x.p3.n x.p3.c)).setCell ⟨w.heap.size, 3, none⟩ (.slice x.p4.a x.p4.n x.p4.c)).drew) w.heap.size x ∧ DOwn w.heap.size (((((w1.setCell ⟨w.heap.size, 0, none⟩ (.slice x.p1.a x.p1.n x.p1.c)).setCell ⟨w.heap.size, 1, none⟩ (.slice x.p2.a x.p2.n x.p2.c)).setCell ⟨w.heap.size, 2, none⟩ (.slice x.p3.a x.p3.n x.p3.c)).setCell ⟨w.heap.size, 3, none⟩ (.slice x.p4.a x.p4.n x.p4.c)).drew) x d ∧ Below w.heap.size w (((((w1.setCell ⟨w.heap.size, 0, none⟩ (.slice x.p1.a x.p1.n x.p1.c)).setCell ⟨w.heap.size, 1, none⟩ (.slice x.p2.a x.p2.n x.p2.c)).setCell ⟨w.heap.size, 2, none⟩ (.slice x.p3.a x.p3.n x.p3.c)).setCell ⟨w.heap.size, 3, none⟩ (.slice x.p4.a x.p4.n x.p4.c)).drew)) :=
        ⟨HK.out.1.four x, (HK.out.2.2.ret4 (by omega) (by omega)).stays (Below.refl _ _).drew, (ret4 HK.out.1 HK.out.2.1 (Nat.le_refl _) x).2.drew⟩
      generalize (((((w1.setCell ⟨w.heap.size, 0, none⟩ (.slice x.p1.a x.p1.n x.p1.c)).setCell ⟨w.heap.size, 1, none⟩ (.slice x.p2.a x.p2.n x.p2.c)).setCell ⟨w.heap.size, 2, none⟩ (.slice x.p3.a x.p3.n x.p3.c)).setCell ⟨w.heap.size, 3, none⟩ (.slice x.p4.a x.p4.n x.p4.c)).drew) = W9 at *
      have z0 := HX.out.1.box.1
      have z1 := HX.out.1.box.2.1
      have z2 := HX.out.1.box.2.2.1
      have z3 := HX.out.1.box.2.2.2.1
      exact bodyPost_ret (v := .tuple #[.agg #[.slice x.p1.a x.p1.n x.p1.c, .slice x.p2.a x.p2.n x.p2.c, .slice x.p3.a x.p3.n x.p3.c, .slice x.p4.a x.p4.n x.p4.c], .bool true]) (by simp [results, Tryz.results61, go_sem, z0, z1, z2, z3]) rfl ⟨x, rfl, HX.out.2⟩
  · obtain ⟨hs, rfl⟩ := hs
    simp at hlen
    have hl0 : (0 : Int) < (len : Int) := by omega
    go_enter Tryz.func61, Tryz.ntmps61
    go_wp2_with fail
    refine K.out.mono ?_
    rintro e w1 ⟨c', v, wa, x, rfl, H1, H2⟩
    obtain ⟨⟨d0, d2, d3, d4, d5, d6⟩, k1, k2, k3⟩ := rx_facts H2.out
    have HK : Hid (DBlk w1 w.heap.size nilDA ∧ Below w.heap.size w w1 ∧ DOwn (w.heap.size + 2) w1 x d) := ⟨k1, k2, k3⟩
    have er0 := k1.box.1
    have er1 := k1.box.2.1
    have er2 := k1.box.2.2.1
    have er3 := k1.box.2.2.2.1
    have ez0 := k1.fz 0
    have ez1 := k1.fz 1
    have ez2 := k1.fz 2
    have ez3 := k1.fz 3
    simp only at er0 er1 er2 er3
    simp only [List.length_nil] at d0
    have hne1 : ¬ w.heap.size = w.heap.size + 1 := by omega
    clear k1 k2 k3 H1 H2 K HZ hsz0
    go_wp2_with fail
    go_region_held3 (fun W => W.cell? ⟨w.heap.size + 1, 0, none⟩ = some (.slice wa 0 c') ∧ W.cell? ⟨w.heap.size + 1, 2, none⟩ = some (.slice x.p1.a x.p1.n x.p1.c) ∧ W.cell? ⟨w.heap.size + 1, 3, none⟩ = some (.slice x.p2.a x.p2.n x.p2.c) ∧ W.cell? ⟨w.heap.size + 1, 4, none⟩ = some (.slice x.p3.a x.p3.n x.p3.c) ∧ W.cell? ⟨w.heap.size + 1, 5, none⟩ = some (.slice x.p4.a x.p4.n x.p4.c) ∧ W.cell? ⟨w.heap.size + 1, 6, none⟩ = some (.bool false)) (exact ⟨by go_keep, by go_keep, by go_keep, by go_keep, by go_keep, by go_keep⟩) (fail)
    all_goals
      go_wp2_with fail
      have HX : Hid (DBlk (((((w1.setCell ⟨w.heap.size, 0, none⟩ (.slice x.p1.a x.p1.n x.p1.c)).setCell ⟨w.heap.size, 1, none⟩ (.slice x.p2.a x.p2.n x.p2.c)).setCell ⟨w.heap.size, 2, none⟩ (.slice x.p3.a x.p3.n x.p3.c)).setCell ⟨w.heap.size, 3, none⟩ (.slice x.p4.a x.p4.n x.p4.c)).drew) w.heap.size x ∧ DOwn w.heap.size (((((w1.setCell ⟨w.heap.size, 0, none⟩ (.slice x.p1.a x.p1.n x.p1.c)).setCell ⟨w.heap.size, 1, none⟩ (.slice x.p2.a x.p2.n x.p2.c)).setCell ⟨w.heap.size, 2, none⟩ (.slice x.p3.a x.p3.n x.p3.c)).setCell ⟨w.heap.size, 3, none⟩ (.slice x.p4.a x.p4.n x.p4.c)).drew) x d ∧ Below w.heap.size w (((((w1.setCell ⟨w.heap.size, 0, none⟩ (.slice x.p1.a x.p1.n x.p1.c)).setCell ⟨w.heap.size, 1, none⟩ (.slice x.p2.a x.p2.n x.p2.c)).setCell ⟨w.heap.size, 2, none⟩ (.slice x.p3.a x.p3.n x.p3.c)).setCell ⟨w.heap.size, 3, none⟩ (.slice x.p4.a x.p4.n x.p4.c)).drew)) :=
        ⟨HK.out.1.four x, (HK.out.2.2.ret4 (by omega) (by omega)).stays (Below.refl _ _).drew, (ret4 HK.out.1 HK.out.2.1 (Nat.le_refl _) x).2.drew⟩
      generalize (((((w1.setCell ⟨w.heap.size, 0, none⟩ (.slice x.p1.a x.p1.n x.p1.c)).setCell ⟨w.heap.size, 1, none⟩ (.slice x.p2.a x.p2.n x.p2.c)).setCell ⟨w.heap.size, 2, none⟩ (.slice x.p3.a x.p3.n x.p3.c)).setCell ⟨w.heap.size, 3, none⟩ (.slice x.p4.a x.p4.n x.p4.c)).drew) = W9 at *
      have z0 := HX.out.1.box.1
      have z1 := HX.out.1.box.2.1
      have z2 := HX.out.1.box.2.2.1
      have z3 := HX.out.1.box.2.2.2.1
      exact bodyPost_ret (v := .tuple #[.agg #[.slice x.p1.a x.p1.n x.p1.c, .slice x.p2.a x.p2.n x.p2.c, .slice x.p3.a x.p3.n x.p3.c, .slice x.p4.a x.p4.n x.p4.c], .bool true]) (by simp [results, Tryz.results61, go_sem, z0, z1, z2, z3]) rfl ⟨x, rfl, HX.out.2⟩
  · simp at hlen
    have hl0 : (0 : Int) < (len : Int) := by omega
    go_enter Tryz.func61, Tryz.ntmps61
    go_wp2_with fail
    refine K.out.mono ?_
    rintro e w1 ⟨c', v, wa, x, rfl, H1, H2⟩
    obtain ⟨⟨d0, d2, d3, d4, d5, d6⟩, k1, k2, k3⟩ := rx_facts H2.out
    have HK : Hid (DBlk w1 w.heap.size nilDA ∧ Below w.heap.size w w1 ∧ DOwn (w.heap.size + 2) w1 x d) := ⟨k1, k2, k3⟩
    have er0 := k1.box.1
    have er1 := k1.box.2.1
    have er2 := k1.box.2.2.1
    have er3 := k1.box.2.2.2.1
    have ez0 := k1.fz 0
    have ez1 := k1.fz 1
    have ez2 := k1.fz 2
    have ez3 := k1.fz 3
    simp only at er0 er1 er2 er3
    simp only [List.length_nil] at d0
    have hne1 : ¬ w.heap.size = w.heap.size + 1 := by omega
    clear k1 k2 k3 H1 H2 K HZ hsz0
    go_wp2_with fail
    go_region_held3 (fun W => W.cell? ⟨w.heap.size + 1, 0, none⟩ = some (.slice wa 0 c') ∧ W.cell? ⟨w.heap.size + 1, 2, none⟩ = some (.slice x.p1.a x.p1.n x.p1.c) ∧ W.cell? ⟨w.heap.size + 1, 3, none⟩ = some (.slice x.p2.a x.p2.n x.p2.c) ∧ W.cell? ⟨w.heap.size + 1, 4, none⟩ = some (.slice x.p3.a x.p3.n x.p3.c) ∧ W.cell? ⟨w.heap.size + 1, 5, none⟩ = some (.slice x.p4.a x.p4.n x.p4.c) ∧ W.cell? ⟨w.heap.size + 1, 6, none⟩ = some (.bool false)) (exact ⟨by go_keep, by go_keep, by go_keep, by go_keep, by go_keep, by go_keep⟩) (fail)
    all_goals
      go_wp2_with fail
      have HX : Hid (DBlk (((((w1.setCell ⟨w.heap.size, 0, none⟩ (.slice x.p1.a x.p1.n x.p1.c)).setCell ⟨w.heap.size, 1, none⟩ (.slice x.p2.a x.p2.n x.p2.c)).setCell ⟨w.heap.size, 2, none⟩ (.slice x.p3.a x.p3.n x.p3.c)).setCell ⟨w.heap.size, 3, none⟩ (.slice x.p4.a x.p4.n x.p4.c)).drew) w.heap.size x ∧ DOwn w.heap.size (((((w1.setCell ⟨w.heap.size, 0, none⟩ (.slice x.p1.a x.p1.n x.p1.c)).setCell ⟨w.heap.size, 1, none⟩ (.slice x.p2.a x.p2.n x.p2.c)).setCell ⟨w.heap.size, 2, none⟩ (.slice x.p3.a x.p3.n x.p3.c)).setCell ⟨w.heap.size, 3, none⟩ (.slice x.p4.a x.p4.n x.p4.c)).drew) x d ∧ Below w.heap.size w (((((w1.setCell ⟨w.heap.size, 0, none⟩ (.slice x.p1.a x.p1.n x.p1.c)).setCell ⟨w.heap.size, 1, none⟩ (.slice x.p2.a x.p2.n x.p2.c)).setCell ⟨w.heap.size, 2, none⟩ (.slice x.p3.a x.p3.n x.p3.c)).setCell ⟨w.heap.size, 3, none⟩ (.slice x.p4.a x.p4.n x.p4.c)).drew)) :=
        ⟨HK.out.1.four x, (HK.out.2.2.ret4 (by omega) (by omega)).stays (Below.refl _ _).drew, (ret4 HK.out.1 HK.out.2.1 (Nat.le_refl _) x).2.drew⟩
      generalize (((((w1.setCell ⟨w.heap.size, 0, none⟩ (.slice x.p1.a x.p1.n x.p1.c)).setCell ⟨w.heap.size, 1, none⟩ (.slice x.p2.a x.p2.n x.p2.c)).setCell ⟨w.heap.size, 2, none⟩ (.slice x.p3.a x.p3.n x.p3.c)).setCell ⟨w.heap.size, 3, none⟩ (.slice x.p4.a x.p4.n x.p4.c)).drew) = W9 at *
      have z0 := HX.out.1.box.1
      have z1 := HX.out.1.box.2.1
      have z2 := HX.out.1.box.2.2.1
      have z3 := HX.out.1.box.2.2.2.1
      exact bodyPost_ret (v := .tuple #[.agg #[.slice x.p1.a x.p1.n x.p1.c, .slice x.p2.a x.p2.n x.p2.c, .slice x.p3.a x.p3.n x.p3.c, .slice x.p4.a x.p4.n x.p4.c], .bool true]) (by simp [results, Tryz.results61, go_sem, z0, z1, z2, z3]) rfl ⟨x, rfl, HX.out.2⟩
end Go.Proofs.YtfkfjodfjgjbkaaGreatDoor
/- Parse. -/
namespace Go.Proofs.YtfkfjodfjgjbkaaGreatDoor
open Go.ChangeShapes Go.WideShapes Go.ChangeAt Go.RowKit
set_option linter.unusedVariables false
set_option linter.unusedSimpArgs false

set_option maxRecDepth 100000 in
set_option maxHeartbeats 1000000 in
/-- Whether there are data of a type. -/
theorem hasT_any (t : Nat) (w : World) : Calls Tryz.prog 60 #[.int .u16 t] w fun e w' => e = .returned (.bool (mayT t)) ∧ w' = w := by
  have HS : Hid (∀ W, Calls Tryz.prog 85 #[.int .u16 t] W fun e w' => e = .returned (.bool (decide (t ≠ 0) && decide (t ≠ 41) && (decide (t < 128) || decide (255 < t)))) ∧ w' = W) := by
    intro W
    go_enter Tryz.func85, Tryz.ntmps85
    by_cases h0 : t = 0
    · subst h0
      go_wp2_with fail
      go_ret
      exact ⟨ret_bool (by decide), rfl⟩
    · by_cases h1 : t = 41
      · subst h1
        go_wp2_with fail
        go_ret
        exact ⟨ret_bool (by decide), rfl⟩
      · have q0 : ((t : Int) == 0) = false := by simp; omega
        have q1 : ((t : Int) == 41) = false := by simp; omega
        go_wp2_with fail
        refine (asked_any t _).mono ?_
        rintro e W ⟨rfl, rfl⟩
        go_wp2_with fail
        go_ret
        refine ⟨ret_bool ?_, rfl⟩
        simp [h0, h1]
        by_cases h2 : t < 128
        · simp [h2]; omega
        · by_cases h3 : 255 < t
          · simp [h3]; omega
          · simp [h2, h3]; omega
  go_enter Tryz.func60, Tryz.ntmps60
  by_cases h1 : t = 41
  · subst h1
    go_wp2_with fail
    refine (HS.out _).mono ?_
    rintro e W ⟨rfl, rfl⟩
    go_wp2_with fail
    go_ret
    exact ⟨rfl, rfl⟩
  · have q1 : ((t : Int) == 41) = false := by simp; omega
    go_wp2_with fail
    refine (HS.out _).mono ?_
    rintro e W ⟨rfl, rfl⟩
    have hm : (decide (t ≠ 0) && decide (t ≠ 41) && (decide (t < 128) || decide (255 < t))) = mayT t := by simp [mayT, h1]
    rw [hm]
    cases hmt : mayT t
    all_goals
      go_wp2_with fail
      go_ret
      exact ⟨by rw [hmt]; rfl, rfl⟩
/-- What is read of words. -/
def PrPost (d : Dat) (w : World) (e : Ending) (w' : World) : Prop :=
  ∃ x : DA, e = .returned (.tuple #[.agg #[.slice x.p1.a x.p1.n x.p1.c, .slice x.p2.a x.p2.n x.p2.c, .slice x.p3.a x.p3.n x.p3.c, .slice x.p4.a x.p4.n x.p4.c], .int .i64 0]) ∧ Hid (DOwn w.heap.size w' x d ∧ Below w.heap.size w w')
set_option maxRecDepth 100000 in
set_option maxHeartbeats 4000000 in
theorem parse_ok (t : Nat) (va : Value) (oa : Option Addr) (on oc : Nat) (og : List ByteArray) (d : Dat) (w : World) (hog : Nm w oa on og) (hck : nck og = 0) (hmay : mayT t = true) (hB : Bd d) (hch : checkF t d = 0)
    (h : ∀ W, Below w.heap.size w W → Calls Tryz.prog 61 #[.int .u16 (t : Int), va, .slice oa on oc] W fun e w' => ∃ x : DA, e = .returned (.tuple #[.agg #[.slice x.p1.a x.p1.n x.p1.c, .slice x.p2.a x.p2.n x.p2.c, .slice x.p3.a x.p3.n x.p3.c, .slice x.p4.a x.p4.n x.p4.c], .bool true]) ∧ Hid (DOwn W.heap.size w' x d ∧ Below W.heap.size W w')) :
    Calls Tryz.prog 26 #[.int .u16 (t : Int), va, .slice oa on oc] w (PrPost d w) := by
  have HZ : Hid (Below w.heap.size w (w.alloc (.cells #[.slice none 0 0, .slice none 0 0, .slice none 0 0, .slice none 0 0] 29)) ∧ DBlk (w.alloc (.cells #[.slice none 0 0, .slice none 0 0, .slice none 0 0, .slice none 0 0] 29)) w.heap.size nilDA) := ⟨new_below _ _, heap_alloc_new _ _⟩
  have hs0 : w.heap.size < (w.alloc (.cells #[.slice none 0 0, .slice none 0 0, .slice none 0 0, .slice none 0 0] 29)).heap.size := by simp
  have KN : Hid (Calls Tryz.prog 25 #[.slice oa on oc] (w.alloc (.cells #[.slice none 0 0, .slice none 0 0, .slice none 0 0, .slice none 0 0] 29)) fun e w' => e = .returned (.int .i64 0) ∧ w' = (w.alloc (.cells #[.slice none 0 0, .slice none 0 0, .slice none 0 0, .slice none 0 0] 29))) := by
    have := pm_check oc (hog.below HZ.out.1)
    rw [hck] at this
    exact this
  have KH : Hid (∀ W, Calls Tryz.prog 60 #[.int .u16 (t : Int)] W fun e w' => e = .returned (.bool true) ∧ w' = W) := fun W => by have := hasT_any t W; rw [hmay] at this; exact this
  have K := Lib.hid (h _ HZ.out.1)
  have KC : Hid (∀ W x, DRd W x d → Calls Tryz.prog 24 #[.int .u16 (t : Int), .agg #[.slice x.p1.a x.p1.n x.p1.c, .slice x.p2.a x.p2.n x.p2.c, .slice x.p3.a x.p3.n x.p3.c, .slice x.p4.a x.p4.n x.p4.c]] W fun e w' => e = .returned (.int .i64 0) ∧ Hid (Below W.heap.size W w')) := fun W x hW => by have := check_any t x d W hW hB; rw [hch] at this; exact this
  clear h hog hck hch hmay hB
  go_enter Tryz.func26, Tryz.ntmps26
  generalize hw0 : w.alloc (.cells #[.slice none 0 0, .slice none 0 0, .slice none 0 0, .slice none 0 0] 29) = w0 at *
  go_wp2_with fail
  try rw [hw0]
  refine KN.out.mono ?_
  rintro e w1 ⟨rfl, rfl⟩
  go_wp2_with fail
  refine (KH.out _).mono ?_
  rintro e w2 ⟨rfl, rfl⟩
  go_wp2_with fail
  refine K.out.mono ?_
  rintro e w3 ⟨x, rfl, H3⟩
  have HN : Hid (DRd (w3.alloc (.cells #[.slice x.p1.a x.p1.n x.p1.c, .slice x.p2.a x.p2.n x.p2.c, .slice x.p3.a x.p3.n x.p3.c, .slice x.p4.a x.p4.n x.p4.c] 29)) x d ∧ Below w3.heap.size w3 (w3.alloc (.cells #[.slice x.p1.a x.p1.n x.p1.c, .slice x.p2.a x.p2.n x.p2.c, .slice x.p3.a x.p3.n x.p3.c, .slice x.p4.a x.p4.n x.p4.c] 29))) := ⟨H3.out.1.rd.below (new_below _ _), new_below _ _⟩
  go_wp2_with fail
  refine (KC.out _ x HN.out.1).mono ?_
  rintro e w4 ⟨rfl, H4⟩
  have HD : Hid (DBlk w4 w3.heap.size x) := (H4.out.block _ (by simp)).trans (heap_alloc_new _ _)
  have d0 : w4.cell? ⟨w3.heap.size, 0, none⟩ = _ := HD.out.box.1
  have d1 : w4.cell? ⟨w3.heap.size, 1, none⟩ = _ := HD.out.box.2.1
  have d2 : w4.cell? ⟨w3.heap.size, 2, none⟩ = _ := HD.out.box.2.2.1
  have d3 : w4.cell? ⟨w3.heap.size, 3, none⟩ = _ := HD.out.box.2.2.2.1
  have HB34 : Hid (Below w3.heap.size w3 w4) := HN.out.2.trans (H4.out.mono HN.out.2.size)
  have HR : Hid (DBlk w4 w.heap.size nilDA) := (HB34.out.block _ (Nat.lt_of_lt_of_le hs0 H3.out.2.size)).trans ((H3.out.2.block _ hs0).trans HZ.out.2)
  have er0 := HR.out.box.1
  have er1 := HR.out.box.2.1
  have er2 := HR.out.box.2.2.1
  have er3 := HR.out.box.2.2.2.1
  have ez0 := HR.out.fz 0
  have ez1 := HR.out.fz 1
  have ez2 := HR.out.fz 2
  have ez3 := HR.out.fz 3
  simp only at er0 er1 er2 er3
  have HBW : Hid (Below w.heap.size w w4) := (HZ.out.1.trans (H3.out.2.mono (by omega))).trans (HB34.out.mono (by have := H3.out.2.size; omega))
  have HO : Hid (DOwn w2.heap.size w4 x d) := H3.out.1.stays HB34.out
  have hne1 : ¬ w.heap.size = w3.heap.size := by have := H3.out.2.size; omega
  have hne2 : ¬ w3.heap.size = w.heap.size := by omega
  clear KN KH K KC HN H4 HB34 HZ H3 HD
  go_wp2_with fail
  have HX : Hid (DBlk ((((w4.setCell ⟨w.heap.size, 0, none⟩ (.slice x.p1.a x.p1.n x.p1.c)).setCell ⟨w.heap.size, 1, none⟩ (.slice x.p2.a x.p2.n x.p2.c)).setCell ⟨w.heap.size, 2, none⟩ (.slice x.p3.a x.p3.n x.p3.c)).setCell ⟨w.heap.size, 3, none⟩ (.slice x.p4.a x.p4.n x.p4.c)) w.heap.size x ∧ DOwn w.heap.size ((((w4.setCell ⟨w.heap.size, 0, none⟩ (.slice x.p1.a x.p1.n x.p1.c)).setCell ⟨w.heap.size, 1, none⟩ (.slice x.p2.a x.p2.n x.p2.c)).setCell ⟨w.heap.size, 2, none⟩ (.slice x.p3.a x.p3.n x.p3.c)).setCell ⟨w.heap.size, 3, none⟩ (.slice x.p4.a x.p4.n x.p4.c)) x d ∧ Below w.heap.size w ((((w4.setCell ⟨w.heap.size, 0, none⟩ (.slice x.p1.a x.p1.n x.p1.c)).setCell ⟨w.heap.size, 1, none⟩ (.slice x.p2.a x.p2.n x.p2.c)).setCell ⟨w.heap.size, 2, none⟩ (.slice x.p3.a x.p3.n x.p3.c)).setCell ⟨w.heap.size, 3, none⟩ (.slice x.p4.a x.p4.n x.p4.c))) := ⟨(ret4 HR.out HBW.out (Nat.le_refl _) x).1, HO.out.ret4 hs0 (Nat.le_of_lt hs0), (ret4 HR.out HBW.out (Nat.le_refl _) x).2⟩
  generalize ((((w4.setCell ⟨w.heap.size, 0, none⟩ (.slice x.p1.a x.p1.n x.p1.c)).setCell ⟨w.heap.size, 1, none⟩ (.slice x.p2.a x.p2.n x.p2.c)).setCell ⟨w.heap.size, 2, none⟩ (.slice x.p3.a x.p3.n x.p3.c)).setCell ⟨w.heap.size, 3, none⟩ (.slice x.p4.a x.p4.n x.p4.c)) = W9 at *
  have z0 := HX.out.1.box.1
  have z1 := HX.out.1.box.2.1
  have z2 := HX.out.1.box.2.2.1
  have z3 := HX.out.1.box.2.2.2.1
  exact bodyPost_ret (v := .tuple #[.agg #[.slice x.p1.a x.p1.n x.p1.c, .slice x.p2.a x.p2.n x.p2.c, .slice x.p3.a x.p3.n x.p3.c, .slice x.p4.a x.p4.n x.p4.c], .int .i64 0]) (by simp [results, Tryz.results26, go_sem, z0, z1, z2, z3]) rfl ⟨x, rfl, HX.out.2⟩
set_option maxRecDepth 100000 in
set_option maxHeartbeats 4000000 in
theorem parse_no (t : Nat) (va : Value) (oa : Option Addr) (on oc : Nat) (og : List ByteArray) (w : World) (hog : Nm w oa on og) (hck : nck og = 0) (hmay : mayT t = true)
    (h : ∀ W, Below w.heap.size w W → Calls Tryz.prog 61 #[.int .u16 (t : Int), va, .slice oa on oc] W fun e w' => ∃ x : DA, e = .returned (.tuple #[.agg #[.slice x.p1.a x.p1.n x.p1.c, .slice x.p2.a x.p2.n x.p2.c, .slice x.p3.a x.p3.n x.p3.c, .slice x.p4.a x.p4.n x.p4.c], .bool false]) ∧ Hid (Below W.heap.size W w')) :
    Calls Tryz.prog 26 #[.int .u16 (t : Int), va, .slice oa on oc] w fun e w' => e = .returned (.tuple #[.agg #[.slice none 0 0, .slice none 0 0, .slice none 0 0, .slice none 0 0], .int .i64 7]) ∧ Hid (Below w.heap.size w w') := by
  have HZ : Hid (Below w.heap.size w (w.alloc (.cells #[.slice none 0 0, .slice none 0 0, .slice none 0 0, .slice none 0 0] 29)) ∧ DBlk (w.alloc (.cells #[.slice none 0 0, .slice none 0 0, .slice none 0 0, .slice none 0 0] 29)) w.heap.size nilDA) := ⟨new_below _ _, heap_alloc_new _ _⟩
  have hs0 : w.heap.size < (w.alloc (.cells #[.slice none 0 0, .slice none 0 0, .slice none 0 0, .slice none 0 0] 29)).heap.size := by simp
  have KN : Hid (Calls Tryz.prog 25 #[.slice oa on oc] (w.alloc (.cells #[.slice none 0 0, .slice none 0 0, .slice none 0 0, .slice none 0 0] 29)) fun e w' => e = .returned (.int .i64 0) ∧ w' = (w.alloc (.cells #[.slice none 0 0, .slice none 0 0, .slice none 0 0, .slice none 0 0] 29))) := by
    have := pm_check oc (hog.below HZ.out.1)
    rw [hck] at this
    exact this
  have KH : Hid (∀ W, Calls Tryz.prog 60 #[.int .u16 (t : Int)] W fun e w' => e = .returned (.bool true) ∧ w' = W) := fun W => by have := hasT_any t W; rw [hmay] at this; exact this
  have K := Lib.hid (h _ HZ.out.1)
  clear h hog hck hmay
  go_enter Tryz.func26, Tryz.ntmps26
  generalize hw0 : w.alloc (.cells #[.slice none 0 0, .slice none 0 0, .slice none 0 0, .slice none 0 0] 29) = w0 at *
  go_wp2_with fail
  try rw [hw0]
  refine KN.out.mono ?_
  rintro e w1 ⟨rfl, rfl⟩
  go_wp2_with fail
  refine (KH.out _).mono ?_
  rintro e w2 ⟨rfl, rfl⟩
  go_wp2_with fail
  refine K.out.mono ?_
  rintro e w3 ⟨x, rfl, H3⟩
  have HB34 : Hid (Below w3.heap.size w3 (w3.alloc (.cells #[.slice x.p1.a x.p1.n x.p1.c, .slice x.p2.a x.p2.n x.p2.c, .slice x.p3.a x.p3.n x.p3.c, .slice x.p4.a x.p4.n x.p4.c] 29))) := new_below _ _
  have hs3 := Nat.lt_of_lt_of_le hs0 H3.out.size
  have HR : Hid (DBlk w3 w.heap.size nilDA) := (H3.out.block _ hs0).trans HZ.out.2
  have er0 := HR.out.box.1
  have er1 := HR.out.box.2.1
  have er2 := HR.out.box.2.2.1
  have er3 := HR.out.box.2.2.2.1
  have ez0 := HR.out.fz 0
  have ez1 := HR.out.fz 1
  have ez2 := HR.out.fz 2
  have ez3 := HR.out.fz 3
  simp only at er0 er1 er2 er3
  have HBW : Hid (Below w.heap.size w w3) := HZ.out.1.trans (H3.out.mono (by omega))
  have hne1 : ¬ w.heap.size = w3.heap.size := by omega
  have hne2 : ¬ w3.heap.size = w.heap.size := by omega
  clear KN KH K HZ H3
  go_wp2_with fail
  have HX : Hid (DBlk ((((w3.setCell ⟨w.heap.size, 0, none⟩ (.slice none 0 0)).setCell ⟨w.heap.size, 1, none⟩ (.slice none 0 0)).setCell ⟨w.heap.size, 2, none⟩ (.slice none 0 0)).setCell ⟨w.heap.size, 3, none⟩ (.slice none 0 0)) w.heap.size nilDA ∧ Below w.heap.size w ((((w3.setCell ⟨w.heap.size, 0, none⟩ (.slice none 0 0)).setCell ⟨w.heap.size, 1, none⟩ (.slice none 0 0)).setCell ⟨w.heap.size, 2, none⟩ (.slice none 0 0)).setCell ⟨w.heap.size, 3, none⟩ (.slice none 0 0))) := ret4 HR.out HBW.out (Nat.le_refl _) nilDA
  have HY : Hid (DBlk (((((w3.setCell ⟨w.heap.size, 0, none⟩ (.slice none 0 0)).setCell ⟨w.heap.size, 1, none⟩ (.slice none 0 0)).setCell ⟨w.heap.size, 2, none⟩ (.slice none 0 0)).setCell ⟨w.heap.size, 3, none⟩ (.slice none 0 0)).alloc (.cells #[.slice x.p1.a x.p1.n x.p1.c, .slice x.p2.a x.p2.n x.p2.c, .slice x.p3.a x.p3.n x.p3.c, .slice x.p4.a x.p4.n x.p4.c] 29)) w.heap.size nilDA ∧ Below w.heap.size w (((((w3.setCell ⟨w.heap.size, 0, none⟩ (.slice none 0 0)).setCell ⟨w.heap.size, 1, none⟩ (.slice none 0 0)).setCell ⟨w.heap.size, 2, none⟩ (.slice none 0 0)).setCell ⟨w.heap.size, 3, none⟩ (.slice none 0 0)).alloc (.cells #[.slice x.p1.a x.p1.n x.p1.c, .slice x.p2.a x.p2.n x.p2.c, .slice x.p3.a x.p3.n x.p3.c, .slice x.p4.a x.p4.n x.p4.c] 29))) := ⟨((new_below ((((w3.setCell ⟨w.heap.size, 0, none⟩ (.slice none 0 0)).setCell ⟨w.heap.size, 1, none⟩ (.slice none 0 0)).setCell ⟨w.heap.size, 2, none⟩ (.slice none 0 0)).setCell ⟨w.heap.size, 3, none⟩ (.slice none 0 0)) (.cells #[.slice x.p1.a x.p1.n x.p1.c, .slice x.p2.a x.p2.n x.p2.c, .slice x.p3.a x.p3.n x.p3.c, .slice x.p4.a x.p4.n x.p4.c] 29)).block _ HX.out.1.lt).trans HX.out.1, HX.out.2.trans ((new_below ((((w3.setCell ⟨w.heap.size, 0, none⟩ (.slice none 0 0)).setCell ⟨w.heap.size, 1, none⟩ (.slice none 0 0)).setCell ⟨w.heap.size, 2, none⟩ (.slice none 0 0)).setCell ⟨w.heap.size, 3, none⟩ (.slice none 0 0)) (.cells #[.slice x.p1.a x.p1.n x.p1.c, .slice x.p2.a x.p2.n x.p2.c, .slice x.p3.a x.p3.n x.p3.c, .slice x.p4.a x.p4.n x.p4.c] 29)).mono HX.out.2.size)⟩
  generalize (((((w3.setCell ⟨w.heap.size, 0, none⟩ (.slice none 0 0)).setCell ⟨w.heap.size, 1, none⟩ (.slice none 0 0)).setCell ⟨w.heap.size, 2, none⟩ (.slice none 0 0)).setCell ⟨w.heap.size, 3, none⟩ (.slice none 0 0)).alloc (.cells #[.slice x.p1.a x.p1.n x.p1.c, .slice x.p2.a x.p2.n x.p2.c, .slice x.p3.a x.p3.n x.p3.c, .slice x.p4.a x.p4.n x.p4.c] 29)) = W9 at *
  have z0 := HY.out.1.box.1
  have z1 := HY.out.1.box.2.1
  have z2 := HY.out.1.box.2.2.1
  have z3 := HY.out.1.box.2.2.2.1
  exact bodyPost_ret (v := .tuple #[.agg #[.slice none 0 0, .slice none 0 0, .slice none 0 0, .slice none 0 0], .int .i64 7]) (by simp [results, Tryz.results26, go_sem, z0, z1, z2, z3]) rfl ⟨rfl, HY.out.2⟩
end Go.Proofs.YtfkfjodfjgjbkaaGreatDoor
/- Texts joined; addresses as texts, as the program tells them. -/
namespace Go.Proofs.YtfkfjodfjgjbkaaGreatDoor
open Go.ChangeShapes Go.WideShapes Go.ChangeAt Go.RowKit Go.Sort
set_option linter.unusedVariables false
set_option linter.unusedSimpArgs false

theorem lb_bi (l : List UInt8) : lb (bi l) = ⟨l.toArray⟩ := by
  unfold lb txt bi
  congr 1
  rw [List.map_map]
  congr 1
  conv => rhs; rw [← List.map_id l]
  apply List.map_congr_left
  intro b _
  simp
theorem nums_mk (l : List UInt8) : nums ⟨l.toArray⟩ = bi l := by unfold nums bi; simp
theorem dec_lb (n : Nat) : (⟨(Lib.decDigits n).toArray⟩ : ByteArray) = lb (xdec n) := by rw [← bi_dec, lb_bi]
theorem nums_xdec (n : Nat) : nums (lb (xdec n)) = xdec n := xnw_nums n
theorem xhex_by (n : Nat) : ∀ c ∈ xhex n, 0 ≤ c ∧ c ≤ 255 := fun c hc => by have := xhex_ok n c hc; unfold xok at this; omega
theorem nums_xhex (n : Nat) : nums (lb (xhex n)) = xhex n := nums_lb _ (xhex_by n)
theorem join_any (sep : UInt8) (ao : Option Addr) (n c : Nat) (ss : List ByteArray) (w : World) (hr : RdT w ao ss) (hl : ss.length = n) (hc : n ≤ c) (hn : n ≤ 1000000000) (hz : (xjoin sep.toNat (ss.map nums)).length ≤ 140737488355328) :
    Calls Tryz.prog 43 #[.slice ao n c, .string ⟨#[sep]⟩] w fun e w' => e = .returned (.string (lb (xjoin sep.toNat (ss.map nums)))) ∧ Hid (Below w.heap.size w w') := by
  have hj : bi (Lib.join (ss.map (·.data.toList)) [sep]) = xjoin sep.toNat (ss.map nums) := by
    rw [join_x, List.map_map]; rfl
  subst hl
  cases ss with
  | nil =>
    refine (Tryz.strings_Join_none ao c ⟨#[sep]⟩ w).mono ?_
    rintro e w' ⟨rfl, rfl⟩
    exact ⟨rfl, Below.refl _ _⟩
  | cons s ss =>
    obtain ⟨b, o, rfl, hb, _⟩ := hr.at 0 (by simp)
    refine (Tryz.strings_Join b o c (s :: ss) ⟨#[sep]⟩ w (fun j x hx => ?_) hb (by omega) hc (by rw [← bi_len]; show (bi (Lib.join _ [sep])).length ≤ _; rw [hj]; exact hz)).mono ?_
    · obtain ⟨hj1, hj2⟩ := List.getElem?_eq_some_iff.1 hx
      obtain ⟨b', o', e, _, hcell⟩ := hr.at j hj1
      injection e with e
      injection e with e1 e2
      subst e1; subst e2
      rw [hcell, hj2]
    · rintro e w' ⟨rfl, hbel⟩
      refine ⟨?_, hbel⟩
      rw [← hj, lb_bi]
/-- Texts with a byte between each two are no longer than so. -/
theorem xjoin_len (c : Int) (ps : List (List Int)) (M : Nat) (h : ∀ p ∈ ps, p.length ≤ M) : (xjoin c ps).length ≤ ps.length * (M + 1) := by
  induction ps with
  | nil => simp [xjoin]
  | cons p ps ih =>
    have h1 := h p (by simp)
    have h2 := ih (fun q hq => h q (List.mem_cons_of_mem _ hq))
    cases ps with
    | nil => simp [xjoin]; omega
    | cons q ps =>
      simp only [xjoin, List.length_append, List.length_cons] at h2 ⊢
      rw [Nat.add_mul (ps.length + 1) 1 (M + 1)]
      omega
theorem xdec_le (n : Nat) (h : n < 256) : (xdec n).length ≤ 3 := by
  by_cases h1 : n < 10
  · rw [xdec_small h1]; simp
  · rw [xdec_big h1]
    by_cases h2 : n / 10 < 10
    · rw [xdec_small h2]; simp
    · rw [xdec_big h2, xdec_small (by omega)]; simp
def sht (zs : List Int) : List ByteArray := zs.map fun z => lb (xdec z.toNat)
theorem sht_snoc (zs : List Int) (z : Int) : sht (zs ++ [z]) = sht zs ++ [lb (xdec z.toNat)] := by simp [sht]
theorem sht_nums (zs : List Int) : (sht zs).map nums = zs.map fun z => xdec z.toNat := by
  unfold sht
  rw [List.map_map]
  apply List.map_congr_left
  intro z _
  exact nums_xdec _
set_option maxRecDepth 100000 in
set_option maxHeartbeats 2000000 in
theorem stext_any (a : Option Addr) (n c : Nat) (zs : List Int) (w : World) (hr : Rd w a zs) (hl : zs.length = n) (hn : n ≤ 1000) (hL : LayT w) :
    Calls Tryz.prog 81 #[.slice a n c] w fun e w' => e = .returned (.string (lb (xjoin 46 (zs.map fun z => xdec z.toNat)))) ∧ Hid (Below w.heap.size w w') := by
  have HR : Hid (Rd w a zs) := hr
  have HLn : Hid (zs.length = n) := hl
  have HL : Hid (LayT w) := hL
  clear hr hl hL
  go_enter Tryz.func81, Tryz.ntmps81
  go_wp2_with fail
  go_loopw [3, 8] (fun v x wr => ∃ k : Nat, k ≤ n ∧ x = .int .i64 k ∧ Hid (∃ ys, OwnT w.heap.size wr v k ys 1000 ∧ ys.take k = sht (zs.take k)) ∧ Hid (Below w.heap.size w wr)) (fun _ x _ => n - (intOf x).toNat)
  case atStart => exact ⟨0, Nat.zero_le _, rfl, ⟨[], OwnT.nil _ _ _, rfl⟩, Below.refl _ _⟩
  case round =>
    obtain ⟨k, hk, rfl, HW, HB⟩ := hrel
    by_cases hlt : k < n
    · have hlt' : (k : Int) < (n : Int) := by omega
      have hkz : k < zs.length := by rw [HLn.out]; exact hlt
      have hbd := HR.out.bd k
      have HT : Hid (sht (zs.take (k + 1)) = sht (zs.take k) ++ [lb (xdec (zs.getD k 0).toNat)]) := by show _ = _; rw [take_snoc zs k hkz, sht_snoc]
      obtain ⟨b, o, rfl, hb, hc⟩ : ∃ b o, a = some ⟨b, o, none⟩ ∧ b < wr.heap.size ∧ wr.cell? ⟨b, o + k, none⟩ = some (.int .u8 (zs.getD k 0)) := by
        rcases (HR.out.below HB.out).1 with h1 | ⟨b, o, h1, h2, h3⟩
        · rw [h1] at hkz; simp at hkz
        · exact ⟨b, o, h1, h2, h3 k hkz⟩
      obtain ⟨u, hu⟩ : ∃ u : Nat, zs.getD k 0 = (u : Int) := ⟨(zs.getD k 0).toNat, by omega⟩
      rw [hu] at hc HT hbd
      simp only [Int.toNat_natCast] at HT
      clear hu
      have hsz : (lb (xdec u)).size ≤ 1000 := by have := xdec_le u (by omega); rw [← nums_len, nums_xdec]; omega
      have K := Lib.hid (fun W hW => itoa_nat u (by omega) W hW)
      rw [dec_lb u] at K
      generalize lb (xdec u) = f at *
      go_wp2_with fail
      refine (K.out _ (HL.out.below HB.out)).mono ?_
      rintro e w2 ⟨rfl, H2⟩
      obtain ⟨ys, hO, hT⟩ := HW.out
      have hnb : Below w2.heap.size w2 (w2.alloc (.cells #[.string f] 9)) := (Below.refl _ _).alloc (Nat.le_refl _) _
      have HO2 : Hid (OwnT w.heap.size (w2.alloc (.cells #[.string f] 9)) u3 k ys 1000 ∧ ys.take k = sht (zs.take k)) := ⟨(hO.below H2.out).below hnb, hT⟩
      have HNB : Hid (Below w2.heap.size w2 (w2.alloc (.cells #[.string f] 9))) := hnb
      have HB3 : Hid (Below w.heap.size w w2) := HB.out.trans (H2.out.mono HB.out.size)
      clear hO hT hnb HW H2 HB
      go_wp2_with (at_builtin; refine wpList_append_T tyT _ rfl _ _ 26 9 Tryz.underlying26 rfl w.heap.size _ k ys 1000 rfl HO2.out.1 (some ⟨w2.heap.size, 0, none⟩) 1 1 [f] rfl (one_rdT w2 f) rfl (by intro s hs; simp at hs; subst hs; exact hsz) (by omega) (Nat.le_trans HB3.out.size HNB.out.size) ?_; intro v' w' ys' hO' hT' hG')
      have hrow := HO2.out.1.1.lt
      refine ⟨⟨k + 1, by omega, by go_num, ⟨ys', hO'.out, ?_⟩, ?_⟩, by simp [intOf]; omega⟩
      · rw [hT'.out, HO2.out.2, HT.out]
      · exact (HB3.out.trans (HNB.out.mono HB3.out.size)).grown hG' (Nat.le_trans HB3.out.size HNB.out.size) hrow
    · have hge : ¬ (k : Int) < (n : Int) := by omega
      have hkn : k = n := by omega
      subst hkn
      obtain ⟨ys, hO, hT⟩ := HW.out
      obtain ⟨ao, rfl, hnil⟩ := hO.shape
      have hle := hO.le
      have HJ : Hid (Calls Tryz.prog 43 #[.slice ao k ys.length, .string ⟨#[46]⟩] wr fun e w' => e = .returned (.string (lb (xjoin 46 (zs.map fun z => xdec z.toNat)))) ∧ Hid (Below wr.heap.size wr w')) := by
        have ht : zs.take k = zs := List.take_of_length_le (by rw [HLn.out]; exact Nat.le_refl _)
        have hr := hO.rd k
        rw [hT, ht] at hr
        have hlen : (sht zs).length = k := by unfold sht; rw [List.length_map, HLn.out]
        have hm := xjoin_len 46 ((sht zs).map nums) 3 (by
          rw [sht_nums]
          intro p hp
          obtain ⟨z, hz, rfl⟩ := List.mem_map.1 hp
          have := HR.out.2 z hz
          exact xdec_le _ (by omega))
        rw [List.length_map, hlen] at hm
        have := join_any 46 ao k ys.length (sht zs) wr hr hlen hle.1 (by omega) (by show (xjoin 46 _).length ≤ _; omega)
        rw [sht_nums] at this
        exact this
      clear hO hT HW hnil hle
      generalize ys.length = yl at *
      obtain ⟨R, hR⟩ : ∃ R, lb (xjoin 46 (zs.map fun z => xdec z.toNat)) = R := ⟨_, rfl⟩
      have HRR : Hid (lb (xjoin 46 (zs.map fun z => xdec z.toNat)) = R) := hR
      rw [hR] at HJ
      clear hR
      go_wp2_with fail
      refine HJ.out.mono ?_
      rintro e w2 ⟨rfl, H2⟩
      have HB3 : Hid (Below w.heap.size w w2) := HB.out.trans (H2.out.mono HB.out.size)
      go_wp2_with fail
      go_ret
      exact ⟨by rw [HRR.out]; rfl, HB3.out⟩

def u16s (l : List Nat) : List Value := l.map fun (n : Nat) => Value.int .u16 (n : Int)
def hxt (l : List Nat) : List ByteArray := l.map fun n => lb (xhex n)
theorem hxt_snoc (l : List Nat) (n : Nat) : hxt (l ++ [n]) = hxt l ++ [lb (xhex n)] := by simp [hxt]
theorem hxt_nums (l : List Nat) : (hxt l).map nums = l.map xhex := by
  unfold hxt
  rw [List.map_map]
  apply List.map_congr_left
  intro z _
  exact nums_xhex _
theorem take_snocN (l : List Nat) (k : Nat) (h : k < l.length) : l.take (k + 1) = l.take k ++ [l[k]] := by rw [List.take_add_one, List.getElem?_eq_getElem h]; rfl
set_option maxRecDepth 100000 in
set_option maxHeartbeats 2000000 in
theorem joined_any (a : Option Addr) (n c : Nat) (l : List Nat) (w : World) (hr : RdV w a (u16s l)) (hl : l.length = n) (hn : n ≤ 8) (hb : ∀ x ∈ l, x < 65536) (hL : LayT w) :
    Calls Tryz.prog 111 #[.slice a n c] w fun e w' => e = .returned (.string (lb (xcol l))) ∧ Hid (Below w.heap.size w w') := by
  have HR : Hid (RdV w a (u16s l)) := hr
  have HLn : Hid (l.length = n ∧ ∀ x ∈ l, x < 65536) := ⟨hl, hb⟩
  have HL : Hid (LayT w) := hL
  clear hr hl hL hb
  go_enter Tryz.func111, Tryz.ntmps111
  go_wp2_with fail
  go_loopw [3, 8] (fun v x wr => ∃ k : Nat, k ≤ n ∧ x = .int .i64 k ∧ Hid (∃ ys, OwnT w.heap.size wr v k ys 1000 ∧ ys.take k = hxt (l.take k)) ∧ Hid (Below w.heap.size w wr)) (fun _ x _ => n - (intOf x).toNat)
  case atStart => exact ⟨0, Nat.zero_le _, rfl, ⟨[], OwnT.nil _ _ _, rfl⟩, Below.refl _ _⟩
  case round =>
    obtain ⟨k, hk, rfl, HW, HB⟩ := hrel
    by_cases hlt : k < n
    · have hlt' : (k : Int) < (n : Int) := by omega
      have hkz : k < l.length := by rw [HLn.out.1]; exact hlt
      have hu : l[k] < 65536 := HLn.out.2 _ (List.getElem_mem hkz)
      have HT : Hid (hxt (l.take (k + 1)) = hxt (l.take k) ++ [lb (xhex l[k])]) := by show _ = _; rw [take_snocN l k hkz, hxt_snoc]
      obtain ⟨b, o, rfl, hb, hc⟩ : ∃ b o, a = some ⟨b, o, none⟩ ∧ b < wr.heap.size ∧ wr.cell? ⟨b, o + k, none⟩ = some (.int .u16 (l[k] : Int)) := by
        rcases HR.out.below HB.out with h1 | ⟨b, o, h1, h2, h3⟩
        · have h9 : (u16s l).length = 0 := by rw [h1]; rfl
          simp only [u16s, List.length_map] at h9
          omega
        · refine ⟨b, o, h1, h2, ?_⟩
          have := h3 k (by simp [u16s]; exact hkz)
          rw [this]; simp [u16s]
      generalize l[k] = u at *
      have hsz : (lb (xhex u)).size ≤ 1000 := by have := xhex_len u hu; rw [← nums_len, nums_xhex]; omega
      have K := Lib.hid (fun W hW => fmt16 u hu W hW)
      generalize lb (xhex u) = f at *
      have hu' : (u : Int) < 65536 := by omega
      go_wp2_with fail
      refine (K.out _ (HL.out.below HB.out)).mono ?_
      rintro e w2 ⟨rfl, H2⟩
      obtain ⟨ys, hO, hT⟩ := HW.out
      have hnb : Below w2.heap.size w2 (w2.alloc (.cells #[.string f] 9)) := (Below.refl _ _).alloc (Nat.le_refl _) _
      have HO2 : Hid (OwnT w.heap.size (w2.alloc (.cells #[.string f] 9)) u3 k ys 1000 ∧ ys.take k = hxt (l.take k)) := ⟨(hO.below H2.out).below hnb, hT⟩
      have HNB : Hid (Below w2.heap.size w2 (w2.alloc (.cells #[.string f] 9))) := hnb
      have HB3 : Hid (Below w.heap.size w w2) := HB.out.trans (H2.out.mono HB.out.size)
      clear hO hT hnb HW H2 HB
      go_wp2_with (at_builtin; refine wpList_append_T tyT _ rfl _ _ 26 9 Tryz.underlying26 rfl w.heap.size _ k ys 1000 rfl HO2.out.1 (some ⟨w2.heap.size, 0, none⟩) 1 1 [f] rfl (one_rdT w2 f) rfl (by intro s hs; simp at hs; subst hs; exact hsz) (by omega) (Nat.le_trans HB3.out.size HNB.out.size) ?_; intro v' w' ys' hO' hT' hG')
      have hrow := HO2.out.1.1.lt
      refine ⟨⟨k + 1, by omega, by go_num, ⟨ys', hO'.out, ?_⟩, ?_⟩, by simp [intOf]; omega⟩
      · rw [hT'.out, HO2.out.2, HT.out]
      · exact (HB3.out.trans (HNB.out.mono HB3.out.size)).grown hG' (Nat.le_trans HB3.out.size HNB.out.size) hrow
    · have hge : ¬ (k : Int) < (n : Int) := by omega
      have hkn : k = n := by omega
      subst hkn
      obtain ⟨ys, hO, hT⟩ := HW.out
      obtain ⟨ao, rfl, hnil⟩ := hO.shape
      have hle := hO.le
      have HJ : Hid (Calls Tryz.prog 43 #[.slice ao k ys.length, .string ⟨#[58]⟩] wr fun e w' => e = .returned (.string (lb (xcol l))) ∧ Hid (Below wr.heap.size wr w')) := by
        have ht : l.take k = l := List.take_of_length_le (by rw [HLn.out.1]; exact Nat.le_refl _)
        have hr := hO.rd k
        rw [hT, ht] at hr
        have hlen : (hxt l).length = k := by unfold hxt; rw [List.length_map, HLn.out.1]
        have hm := xjoin_len 58 ((hxt l).map nums) 4 (by
          rw [hxt_nums]
          intro p hp
          obtain ⟨z, hz, rfl⟩ := List.mem_map.1 hp
          exact (xhex_len _ (HLn.out.2 z hz)).2)
        rw [List.length_map, hlen] at hm
        have := join_any 58 ao k ys.length (hxt l) wr hr hlen hle.1 (by omega) (by show (xjoin 58 _).length ≤ _; omega)
        rw [hxt_nums] at this
        exact this
      clear hO hT HW hnil hle
      generalize ys.length = yl at *
      obtain ⟨R, hR⟩ : ∃ R, lb (xcol l) = R := ⟨_, rfl⟩
      have HRR : Hid (lb (xcol l) = R) := hR
      rw [hR] at HJ
      clear hR
      go_wp2_with fail
      refine HJ.out.mono ?_
      rintro e w2 ⟨rfl, H2⟩
      have HB3 : Hid (Below w.heap.size w w2) := HB.out.trans (H2.out.mono HB.out.size)
      go_wp2_with fail
      go_ret
      exact ⟨by rw [HRR.out]; rfl, HB3.out⟩
end Go.Proofs.YtfkfjodfjgjbkaaGreatDoor
/- The longest run of noughts; the text of sixteen bytes, as the program tells it. -/
namespace Go.Proofs.YtfkfjodfjgjbkaaGreatDoor
open Go.ChangeShapes Go.WideShapes Go.ChangeAt Go.RowKit Go.Sort
set_option linter.unusedVariables false
set_option linter.unusedSimpArgs false

set_option maxRecDepth 100000 in
set_option maxHeartbeats 2000000 in
theorem run_any (l : List Nat) (h8 : l.length = 8) (w : World) :
    Calls Tryz.prog 110 #[.agg (u16s l).toArray] w fun e w' => e = .returned (.tuple #[.int .i64 ((lrunK l 8).1 : Int), .int .i64 ((lrunK l 8).2.1 : Int)]) ∧ Hid (Below w.heap.size w w') := by
  match l, h8 with
  | [a0, a1, a2, a3, a4, a5, a6, a7], _ =>
    obtain ⟨L, hL⟩ : ∃ L, L = [a0, a1, a2, a3, a4, a5, a6, a7] := ⟨_, rfl⟩
    have H8 : Hid (L.length = 8) := by show _ = _; rw [hL]; rfl
    have HV : Hid (BlkV (w.alloc (.cells #[.int .u16 (a0 : Int), .int .u16 (a1 : Int), .int .u16 (a2 : Int), .int .u16 (a3 : Int), .int .u16 (a4 : Int), .int .u16 (a5 : Int), .int .u16 (a6 : Int), .int .u16 (a7 : Int)] 142)) w.heap.size 142 (u16s L) ∧ Below w.heap.size w (w.alloc (.cells #[.int .u16 (a0 : Int), .int .u16 (a1 : Int), .int .u16 (a2 : Int), .int .u16 (a3 : Int), .int .u16 (a4 : Int), .int .u16 (a5 : Int), .int .u16 (a6 : Int), .int .u16 (a7 : Int)] 142))) := by
      refine ⟨?_, (Below.refl _ _).alloc (Nat.le_refl _) _⟩
      rw [hL]
      exact heap_alloc_new _ _
    rw [← hL]
    have HLL := Lib.hid hL
    clear hL
    have e0 : (u16s L).toArray = #[.int .u16 (a0 : Int), .int .u16 (a1 : Int), .int .u16 (a2 : Int), .int .u16 (a3 : Int), .int .u16 (a4 : Int), .int .u16 (a5 : Int), .int .u16 (a6 : Int), .int .u16 (a7 : Int)] := by rw [HLL.out]; rfl
    rw [e0]
    clear e0
    go_enter Tryz.func110, Tryz.ntmps110
    go_wp2_with fail
    generalize (w.alloc (.cells #[.int .u16 (a0 : Int), .int .u16 (a1 : Int), .int .u16 (a2 : Int), .int .u16 (a3 : Int), .int .u16 (a4 : Int), .int .u16 (a5 : Int), .int .u16 (a6 : Int), .int .u16 (a7 : Int)] 142)) = wa at *
    go_loopw [4, 5, 6, 7] (fun x y z v wr => ∃ (k f t m : Nat), k ≤ 8 ∧ x = .int .i64 (f : Int) ∧ y = .int .i64 (t : Int) ∧ z = .int .i64 (m : Int) ∧ v = .int .i64 (k : Int) ∧ Hid (lrunK L k = (f, t, m)) ∧ Hid (BlkV wr w.heap.size 142 (u16s L) ∧ Below w.heap.size w wr)) (fun _ _ _ v _ => 8 - (intOf v).toNat)
    case atStart => exact ⟨0, 0, 0, 0, by omega, rfl, rfl, rfl, rfl, rfl, HV⟩
    case round =>
      obtain ⟨k, f, t, m, hk, rfl, rfl, rfl, rfl, HR, HW⟩ := hrel
      have hok := lrunK_ok L k
      rw [HR.out] at hok
      simp only at hok
      obtain ⟨o1, o2, o3⟩ := hok
      by_cases hlt : k < 8
      · have hlt' : (k : Int) < 8 := by omega
        have hkl : k < L.length := by rw [H8.out]; exact hlt
        have hc := HW.out.1.cell k (by simp [u16s]; exact hkl)
        have hcv : (u16s L)[k]'(by simp [u16s]; exact hkl) = .int .u16 ((L[k] : Nat) : Int) := by simp [u16s]
        rw [hcv] at hc
        clear hcv
        have HS : Hid (lrunK L (k + 1) = lstep L (f, t, m) k) := by show _ = _; rw [lrunK_succ, HR.out]
        have hgd : L.getD k 0 = L[k] := by rw [List.getD_eq_getElem?_getD, List.getElem?_eq_getElem hkl]; rfl
        have HS2 : Hid (lrunK L (k + 1) = if max 1 (t - f) < k + 1 - (if L[k] ≠ 0 then k + 1 else m) then ((if L[k] ≠ 0 then k + 1 else m), k + 1, (if L[k] ≠ 0 then k + 1 else m)) else (f, t, (if L[k] ≠ 0 then k + 1 else m))) := by
          show _ = _
          rw [HS.out]
          unfold lstep
          rw [hgd]
        clear HS hgd
        generalize L[k] = q at *
        by_cases hq : q = 0
        · subst hq
          simp only [ne_eq, not_true, if_false] at HS2
          by_cases hm : 1 ≤ t - f
          · have hmx : max (1 : Nat) (t - f) = t - f := Nat.max_eq_right hm
            rw [hmx] at HS2
            have hm' : (1 : Int) ≤ (t : Int) - (f : Int) := by omega
            by_cases hg : t - f < k + 1 - m
            · rw [if_pos hg] at HS2
              have hg' : (t : Int) - (f : Int) < (k : Int) + 1 - (m : Int) := by omega
              go_wp2_with fail
              all_goals first
                | exact ⟨⟨k + 1, m, k + 1, m, by omega, rfl, by go_num, rfl, by go_num, HS2, HW⟩, by simp [intOf]; omega⟩
                | (exfalso; omega)
            · rw [if_neg hg] at HS2
              have hg' : ¬ (t : Int) - (f : Int) < (k : Int) + 1 - (m : Int) := by omega
              go_wp2_with fail
              all_goals first
                | exact ⟨⟨k + 1, f, t, m, by omega, rfl, rfl, rfl, by go_num, HS2, HW⟩, by simp [intOf]; omega⟩
                | (exfalso; omega)
          · have hmx : max (1 : Nat) (t - f) = 1 := Nat.max_eq_left (by omega)
            rw [hmx] at HS2
            have hm' : (t : Int) - (f : Int) < 1 := by omega
            by_cases hg : 1 < k + 1 - m
            · rw [if_pos hg] at HS2
              have hg' : (1 : Int) < (k : Int) + 1 - (m : Int) := by omega
              go_wp2_with fail
              all_goals first
                | exact ⟨⟨k + 1, m, k + 1, m, by omega, rfl, by go_num, rfl, by go_num, HS2, HW⟩, by simp [intOf]; omega⟩
                | (exfalso; omega)
            · rw [if_neg hg] at HS2
              have hg' : ¬ (1 : Int) < (k : Int) + 1 - (m : Int) := by omega
              go_wp2_with fail
              all_goals first
                | exact ⟨⟨k + 1, f, t, m, by omega, rfl, rfl, rfl, by go_num, HS2, HW⟩, by simp [intOf]; omega⟩
                | (exfalso; omega)
        · have hq' : ¬ (q : Int) = 0 := by omega
          have hq2 : ((q : Int) != 0) = true := by simp; omega
          simp only [ne_eq, hq, not_false_eq_true, if_true, Nat.sub_self] at HS2
          rw [if_neg (by omega)] at HS2
          go_wp2_with fail
          all_goals first
            | exact ⟨⟨k + 1, f, t, k + 1, by omega, rfl, rfl, by go_num, by go_num, HS2, HW⟩, by simp [intOf]; omega⟩
            | (exfalso; omega)
      · have hge : ¬ (k : Int) < 8 := by omega
        have hk8 : k = 8 := by omega
        subst hk8
        go_wp2_with fail
        go_ret2
        exact ⟨by rw [HR.out]; rfl, HW.out.2⟩
end Go.Proofs.YtfkfjodfjgjbkaaGreatDoor
/- The text of sixteen bytes, and of an address, as the program tells it. -/
namespace Go.Proofs.YtfkfjodfjgjbkaaGreatDoor
open Go.ChangeShapes Go.WideShapes Go.ChangeAt Go.RowKit Go.Sort
set_option linter.unusedVariables false
set_option linter.unusedSimpArgs false

theorem or8 (x y : Int) (hx : 0 ≤ x ∧ x ≤ 255) (hy : 0 ≤ y ∧ y ≤ 255) : bits .or .u16 (x * 256) y = x * 256 + y := by
  obtain ⟨a, rfl⟩ : ∃ a : Nat, x = (a : Int) := ⟨x.toNat, by omega⟩
  obtain ⟨b, rfl⟩ : ∃ b : Nat, y = (b : Int) := ⟨y.toNat, by omega⟩
  have h := u16_or ((a : Int) * 256) (b : Int) (by omega) (by omega) (by omega) (by omega)
  rw [h]
  have e1 : ((a : Int) * 256).toNat = a <<< 8 := by rw [Nat.shiftLeft_eq]; omega
  have e2 : ((b : Int)).toNat = b := by omega
  rw [e1, e2, ← Nat.shiftLeft_add_eq_or_of_lt (show b < 2 ^ 8 by omega), Nat.shiftLeft_eq]
  omega
theorem xprs_at : ∀ (k : Nat) (zs : List Int), 2 * k + 1 < zs.length → (xprs zs)[k]? = some (256 * (zs.getD (2 * k) 0).toNat + (zs.getD (2 * k + 1) 0).toNat)
  | 0, a :: b :: l, _ => by simp [xprs]
  | k + 1, a :: b :: l, h => by
    have := xprs_at k l (by simp at h; omega)
    simp only [xprs, List.getElem?_cons_succ, this]
    rw [show 2 * (k + 1) = 2 * k + 1 + 1 by omega, show 2 * k + 1 + 1 + 1 = (2 * k + 1) + 1 + 1 by omega]
    rfl
  | 0, [], h => by simp at h
  | 0, [a], h => by simp at h
  | k + 1, [], h => by simp at h
  | k + 1, [a], h => by simp at h
theorem sl8h (g k : Nat) (hk : k ≤ 8) (W : World) : (Instr.sliceAt 142 (.pointer (some ⟨g, 0, none⟩)) none (some (.int .i64 (k : Int))) none).run Tryz.prog W = .ok (.slice (some ⟨g, 0, none⟩) k 8) W := by
  have hal : Tryz.prog.arrayLen 142 = 8 := by kernel_rfl
  rw [run_sliceAt_array_h W 142 ⟨g, 0, none⟩ (by simp [Program.arrayLen, Program.elem, Tryz.underlying142]) .i64 (k : Int) (by omega) (by rw [hal]; omega)]
  go_simp
theorem sl8l (g k : Nat) (hk : k ≤ 8) : ∃ ta, (∀ W, (Instr.sliceAt 142 (.pointer (some ⟨g, 0, none⟩)) (some (.int .i64 (k : Int))) none none).run Tryz.prog W = .ok (.slice ta (8 - k) (8 - k)) W) ∧ ((ta = some ⟨g, k, none⟩ ∧ k < 8) ∨ (ta = some ⟨g, 0, none⟩ ∧ k = 8)) := by
  have hal : Tryz.prog.arrayLen 142 = 8 := by kernel_rfl
  by_cases h8 : k = 8
  · subst h8
    refine ⟨_, fun W => ?_, .inr ⟨rfl, rfl⟩⟩
    rw [run_sliceAt_array_l W 142 ⟨g, 0, none⟩ (by simp [Program.arrayLen, Program.elem, Tryz.underlying142]) .i64 ((8 : Nat) : Int) (by omega) (by rw [hal]; omega)]
    go_simp
  · refine ⟨_, fun W => ?_, .inl ⟨rfl, by omega⟩⟩
    rw [run_sliceAt_array_l W 142 ⟨g, 0, none⟩ (by simp [Program.arrayLen, Program.elem, Tryz.underlying142]) .i64 (k : Int) (by omega) (by rw [hal]; omega)]
    go_simp
    omega
/-- The first k numbers, noughts behind. -/
def fill (l : List Nat) (k : Nat) : List Nat := l.take k ++ List.replicate (8 - k) 0
theorem fill_len (l : List Nat) (k : Nat) (h8 : l.length = 8) (hk : k ≤ 8) : (fill l k).length = 8 := by simp [fill]; omega
theorem fill_set (l : List Nat) (k : Nat) (h8 : l.length = 8) (hk : k < 8) : (u16s (fill l k)).set k (.int .u16 ((l[k]'(by omega) : Nat) : Int)) = u16s (fill l (k + 1)) := by
  unfold u16s
  have e : (fill l k).set k (l[k]'(by omega)) = fill l (k + 1) := by
    unfold fill
    rw [List.set_append_right _ _ (by simp; omega)]
    rw [show 8 - k = (8 - (k + 1)) + 1 by omega, List.replicate_succ]
    simp only [List.length_take]
    rw [show k - min k l.length = 0 by omega, List.set_cons_zero, take_snocN l k (by omega), List.append_assoc]
    rfl
  rw [← e, List.map_set]
set_option maxRecDepth 100000 in
set_option maxHeartbeats 4000000 in
theorem ltext_any (a : Option Addr) (c : Nat) (zs : List Int) (w : World) (hr : Rd w a zs) (hl : zs.length = 16) (hL : LayT w) :
    Calls Tryz.prog 82 #[.slice a 16 c] w fun e w' => e = .returned (.string (lb (xa6 (xprs zs)))) ∧ Hid (Below w.heap.size w w') := by
  have HR : Hid (Rd w a zs) := hr
  have HLn : Hid (zs.length = 16) := hl
  have HL : Hid (LayT w) := hL
  have hbz := hr.2
  obtain ⟨i1, i2, i3⟩ := xprs_by zs 8 (by omega) hbz
  have HX : Hid ((xprs zs).length = 8 ∧ (∀ n ∈ xprs zs, n < 65536) ∧ ∀ k, k < 8 → (xprs zs)[k]? = some (256 * (zs.getD (2 * k) 0).toNat + (zs.getD (2 * k + 1) 0).toNat)) := ⟨i1, i3, fun k hk => xprs_at k zs (by omega)⟩
  clear i1 i2 i3 hbz hr hl hL
  obtain ⟨b, o, rfl, hb⟩ : ∃ b o, a = some ⟨b, o, none⟩ ∧ b < w.heap.size := by
    rcases HR.out.1 with h1 | ⟨b, o, h1, h2, h3⟩
    · have := HLn.out; rw [h1] at this; simp at this
    · exact ⟨b, o, h1, h2⟩
  generalize xprs zs = L at *
  have H0 : Hid (BlkV (w.alloc (.cells #[.int .u16 0, .int .u16 0, .int .u16 0, .int .u16 0, .int .u16 0, .int .u16 0, .int .u16 0, .int .u16 0] 142)) w.heap.size 142 (u16s (fill L 0)) ∧ Below w.heap.size w (w.alloc (.cells #[.int .u16 0, .int .u16 0, .int .u16 0, .int .u16 0, .int .u16 0, .int .u16 0, .int .u16 0, .int .u16 0] 142))) := ⟨by
    have e : u16s (fill L 0) = #[.int .u16 0, .int .u16 0, .int .u16 0, .int .u16 0, .int .u16 0, .int .u16 0, .int .u16 0, .int .u16 0].toList := by simp [fill, u16s, List.replicate]
    unfold BlkV
    rw [e]
    exact heap_alloc_new _ _, (Below.refl _ _).alloc (Nat.le_refl _) _⟩
  go_enter Tryz.func82, Tryz.ntmps82
  go_wp2_with fail
  generalize (w.alloc (.cells #[.int .u16 0, .int .u16 0, .int .u16 0, .int .u16 0, .int .u16 0, .int .u16 0, .int .u16 0, .int .u16 0] 142)) = wa at *
  go_loopw [7] (fun x wr => ∃ k : Nat, k ≤ 8 ∧ x = .int .i64 k ∧ Hid (BlkV wr w.heap.size 142 (u16s (fill L k)) ∧ Below w.heap.size w wr)) (fun x _ => 8 - (intOf x).toNat)
  case atStart => exact ⟨0, by omega, rfl, H0⟩
  case round =>
    obtain ⟨k, hk, rfl, HW⟩ := hrel
    clear H0
    by_cases hlt : k < 8
    · have hlt' : (k : Int) < 8 := by omega
      have hR := HR.out.below HW.out.2
      have hrd : ∀ i, i < 16 → wr.cell? ⟨b, o + i, none⟩ = some (.int .u8 (zs.getD i 0)) := by
        intro i hi
        rcases hR.1 with h1 | ⟨b', o', h1, h2, h3⟩
        · have := HLn.out; rw [h1] at this; simp at this
        · injection h1 with h1
          injection h1 with e1 e2
          subst e1; subst e2
          exact h3 i (by rw [HLn.out]; exact hi)
      have hc1 := hrd (2 * k) (by omega)
      have hc2 := hrd (2 * k + 1) (by omega)
      have hb1 := hR.bd (2 * k)
      have hb2 := hR.bd (2 * k + 1)
      have hkl : k < L.length := by rw [HX.out.1]; exact hlt
      have hv : ((L[k] : Nat) : Int) = zs.getD (2 * k) 0 * 256 + zs.getD (2 * k + 1) 0 := by
        have := HX.out.2.2 k hlt
        rw [List.getElem?_eq_getElem hkl] at this
        injection this with this
        rw [this]; omega
      have HST : Hid ((u16s (fill L k)).set k (.int .u16 (zs.getD (2 * k) 0 * 256 + zs.getD (2 * k + 1) 0)) = u16s (fill L (k + 1))) := by
        show _ = _
        rw [← hv]
        exact fill_set L k HX.out.1 hlt
      have hlen : k < (u16s (fill L k)).length := by unfold u16s; rw [List.length_map, fill_len L k HX.out.1 (by omega)]; exact hlt
      have hc3 := HW.out.1.cell k hlen
      have hf3 := HW.out.1.frozen k
      generalize (u16s (fill L k))[k] = c0 at hc3
      clear hrd hR hv
      generalize zs.getD (2 * k) 0 = x at *
      generalize zs.getD (2 * k + 1) 0 = y at *
      have hor := or8 x y hb1 hb2
      have hw1 : IntKind.u16.wrap (x * 256) = x * 256 := by rw [IntKind.wrap_u16]; omega
      go_wp2_with fail
      go_region
      go_wp2
      refine ⟨⟨k + 1, by omega, by go_num, ?_, ?_⟩, by simp [intOf]; omega⟩
      · have := HW.out.1.stored k (.int .u16 (x * 256 + y))
        rw [HST.out] at this
        exact this
      · exact (HW.out.2.setCell (show w.heap.size ≤ (⟨w.heap.size, k, none⟩ : Addr).block from Nat.le_refl _) _).drew
    · have hge : ¬ (k : Int) < 8 := by omega
      have hk8 : k = 8 := by omega
      subst hk8
      obtain ⟨a0, a1, a2, a3, a4, a5, a6, a7, rfl⟩ : ∃ a0 a1 a2 a3 a4 a5 a6 a7, L = [a0, a1, a2, a3, a4, a5, a6, a7] := by
        have := HX.out.1
        match L, this with
        | [a0, a1, a2, a3, a4, a5, a6, a7], _ => exact ⟨a0, a1, a2, a3, a4, a5, a6, a7, rfl⟩
      have HV : Hid (BlkV wr w.heap.size 142 (u16s [a0, a1, a2, a3, a4, a5, a6, a7])) := HW.out.1
      have HB : Hid (Below w.heap.size w wr) := HW.out.2
      have d0 : wr.cell? ⟨w.heap.size, 0, none⟩ = some (.int .u16 (a0 : Int)) := HV.out.cell 0 (by simp [u16s])
      have d1 : wr.cell? ⟨w.heap.size, 1, none⟩ = some (.int .u16 (a1 : Int)) := HV.out.cell 1 (by simp [u16s])
      have d2 : wr.cell? ⟨w.heap.size, 2, none⟩ = some (.int .u16 (a2 : Int)) := HV.out.cell 2 (by simp [u16s])
      have d3 : wr.cell? ⟨w.heap.size, 3, none⟩ = some (.int .u16 (a3 : Int)) := HV.out.cell 3 (by simp [u16s])
      have d4 : wr.cell? ⟨w.heap.size, 4, none⟩ = some (.int .u16 (a4 : Int)) := HV.out.cell 4 (by simp [u16s])
      have d5 : wr.cell? ⟨w.heap.size, 5, none⟩ = some (.int .u16 (a5 : Int)) := HV.out.cell 5 (by simp [u16s])
      have d6 : wr.cell? ⟨w.heap.size, 6, none⟩ = some (.int .u16 (a6 : Int)) := HV.out.cell 6 (by simp [u16s])
      have d7 : wr.cell? ⟨w.heap.size, 7, none⟩ = some (.int .u16 (a7 : Int)) := HV.out.cell 7 (by simp [u16s])
      have K := Lib.hid (show Calls Tryz.prog 110 #[.agg #[.int .u16 (a0 : Int), .int .u16 (a1 : Int), .int .u16 (a2 : Int), .int .u16 (a3 : Int), .int .u16 (a4 : Int), .int .u16 (a5 : Int), .int .u16 (a6 : Int), .int .u16 (a7 : Int)]] wr _ from run_any [a0, a1, a2, a3, a4, a5, a6, a7] rfl wr)
      have hok := lrunK_ok [a0, a1, a2, a3, a4, a5, a6, a7] 8
      have HA6 := Lib.hid (xa6_run [a0, a1, a2, a3, a4, a5, a6, a7] rfl)
      have HBD := Lib.hid HX.out.2.1
      obtain ⟨f, hf⟩ : ∃ f, (lrunK [a0, a1, a2, a3, a4, a5, a6, a7] 8).1 = f := ⟨_, rfl⟩
      obtain ⟨t, ht⟩ : ∃ t, (lrunK [a0, a1, a2, a3, a4, a5, a6, a7] 8).2.1 = t := ⟨_, rfl⟩
      rw [hf, ht] at K HA6 hok
      obtain ⟨o1, o2, -⟩ := hok
      clear hf ht HW HX HR HLn
      obtain ⟨M, hM⟩ : ∃ M, M = [a0, a1, a2, a3, a4, a5, a6, a7] := ⟨_, rfl⟩
      rw [← hM] at HA6 HBD HV
      have HM : Hid (M.length = 8 ∧ M = [a0, a1, a2, a3, a4, a5, a6, a7]) := ⟨by rw [hM]; rfl, hM⟩
      clear hM
      go_wp2_with fail
      refine K.out.mono ?_
      rintro e w1 ⟨rfl, H1⟩
      have HV1 := Lib.hid (HV.out.below H1.out)
      have HB1 := Lib.hid (HB.out.trans (H1.out.mono HB.out.size))
      have HL1 := Lib.hid (HL.out.below HB1.out)
      clear d0 d1 d2 d3 d4 d5 d6 d7 K HV H1 HB HL
      by_cases hft : f = t
      · subst hft
        have KJ := Lib.hid (joined_any (some ⟨w.heap.size, 0, none⟩) 8 8 M w1 (by have := HV1.out.rd 8; rw [List.take_of_length_le (by simp [u16s, HM.out.1])] at this; exact this) HM.out.1 (by omega) HBD.out HL1.out)
        have HE : Hid (xa6 [a0, a1, a2, a3, a4, a5, a6, a7] = xcol M) := by rw [← HM.out.2]; exact HA6.out.1 rfl
        clear HV1 HL1 HA6 HBD
        go_wp2_with fail
        refine KJ.out.mono ?_
        rintro e w2 ⟨rfl, H2⟩
        have HB2 := Lib.hid (HB1.out.trans (H2.out.mono HB1.out.size))
        go_wp2_with fail
        go_ret
        exact ⟨by rw [HE.out]; rfl, HB2.out⟩
      · have hft' : ¬ (f : Int) = (t : Int) := by omega
        have hft2 : ((f : Int) == (t : Int)) = false := by rw [beq_eq_false_iff_ne]; exact hft'
        have HE : Hid (xa6 [a0, a1, a2, a3, a4, a5, a6, a7] = xcol (M.take f) ++ 58 :: 58 :: xcol (M.drop t)) := by rw [← HM.out.2]; exact HA6.out.2 hft
        clear HA6
        have f8 : (f : Int) ≤ 8 := by omega
        have t8 : (t : Int) ≤ 8 := by omega
        have hcl : ∀ l : List Nat, (∀ n ∈ l, n < 65536) → l.length ≤ 8 → (lb (xcol l)).size ≤ 100 := by
          intro l h1 h2
          have h3 : (xcol l).length ≤ l.length * 5 := by
            have := xjoin_len 58 (l.map xhex) 4 (by
              intro p hp
              obtain ⟨z, hz, rfl⟩ := List.mem_map.1 hp
              exact (xhex_len _ (h1 z hz)).2)
            rw [List.length_map] at this
            exact this
          have : (lb (xcol l)).size = (xcol l).length := by rw [← nums_len, nums_lb _ (fun c hc => by have := xcol_ok l c hc; unfold xok at this; omega)]
          omega
        have hM8 := HM.out.1
        obtain ⟨r1, hr1⟩ : ∃ r, lb (xcol (M.take f)) = r := ⟨_, rfl⟩
        obtain ⟨r2, hr2⟩ : ∃ r, lb (xcol (M.drop t)) = r := ⟨_, rfl⟩
        have z1 : r1.size ≤ 100 := by rw [← hr1]; exact hcl _ (fun n hn => HBD.out n (List.mem_of_mem_take hn)) (by simp; omega)
        have z2 : r2.size ≤ 100 := by rw [← hr2]; exact hcl _ (fun n hn => HBD.out n (List.mem_of_mem_drop hn)) (by simp; omega)
        have HRR : Hid (lb (xcol (M.take f)) = r1 ∧ lb (xcol (M.drop t)) = r2) := ⟨hr1, hr2⟩
        have hal : Tryz.prog.arrayLen 142 = 8 := by kernel_rfl
        have hs1 : ∀ W, (Instr.sliceAt 142 (.pointer (some ⟨w.heap.size, 0, none⟩)) none (some (.int .i64 (f : Int))) none).run Tryz.prog W = .ok (.slice (some ⟨w.heap.size, 0, none⟩) f 8) W := sl8h w.heap.size f (by omega)
        obtain ⟨ta, hs2, hta⟩ := sl8l w.heap.size t (by omega)
        have hkey : ∀ W, BlkV W w.heap.size 142 (u16s M) → RdV W ta (u16s (M.drop t)) := by
          intro W hW
          rcases hta with ⟨rfl, _⟩ | ⟨rfl, ht8⟩
          · have := hW.rd 8
            have h2 := this.cut t (8 - t) (a' := some ⟨w.heap.size, t, none⟩) (fun _ b o e => by injection e with e; injection e with e1 e2; subst e1; subst e2; simp)
            have e3 : (((u16s M).take 8).drop t).take (8 - t) = u16s (M.drop t) := by
              rw [List.take_of_length_le (by simp [u16s, hM8]), List.take_of_length_le (by simp [u16s, hM8])]
              simp [u16s]
            rw [e3] at h2
            exact h2
          · have : u16s (M.drop t) = [] := by rw [List.drop_eq_nil_of_le (by omega)]; rfl
            rw [this]; exact .inl rfl
        have K : Hid (∀ W v r, Hid (LayT W ∧ BlkV W w.heap.size 142 (u16s M) ∧ Below w.heap.size w W) → ((v = .slice (some ⟨w.heap.size, 0, none⟩) f 8 ∧ r = r1) ∨ (v = .slice ta (8 - t) (8 - t) ∧ r = r2)) → Calls Tryz.prog 111 #[v] W fun e w' => e = .returned (.string r) ∧ Hid (LayT w' ∧ BlkV w' w.heap.size 142 (u16s M) ∧ Below w.heap.size w w')) := by
          intro W v r HS hv
          have fin : ∀ w', Below W.heap.size W w' → (LayT w' ∧ BlkV w' w.heap.size 142 (u16s M) ∧ Below w.heap.size w w') := fun w' h => ⟨HS.out.1.below h, HS.out.2.1.below h, HS.out.2.2.trans (h.mono HS.out.2.2.size)⟩
          rcases hv with ⟨rfl, rfl⟩ | ⟨rfl, rfl⟩
          · refine (joined_any (some ⟨w.heap.size, 0, none⟩) f 8 (M.take f) W (by have := HS.out.2.1.rd f; rw [show (u16s M).take f = u16s (M.take f) by simp [u16s]] at this; exact this) (by simp; omega) (by omega) (fun n hn => HBD.out n (List.mem_of_mem_take hn)) HS.out.1).mono ?_
            rintro e w' ⟨rfl, H⟩
            exact ⟨by rw [HRR.out.1], fin w' H.out⟩
          · refine (joined_any ta (8 - t) (8 - t) (M.drop t) W (hkey W HS.out.2.1) (by simp; omega) (by omega) (fun n hn => HBD.out n (List.mem_of_mem_drop hn)) HS.out.1).mono ?_
            rintro e w' ⟨rfl, H⟩
            exact ⟨by rw [HRR.out.2], fin w' H.out⟩
        have HS : Hid (LayT w1 ∧ BlkV w1 w.heap.size 142 (u16s M) ∧ Below w.heap.size w w1) := ⟨HL1.out, HV1.out, HB1.out⟩
        have HD : Hid (∀ W, Hid (LayT W ∧ BlkV W w.heap.size 142 (u16s M) ∧ Below w.heap.size w W) → Hid (LayT W.drew ∧ BlkV W.drew w.heap.size 142 (u16s M) ∧ Below w.heap.size w W.drew)) := fun W h => ⟨h.out.1.below (Below.refl _ _).drew, h.out.2.1, h.out.2.2.trans (Below.refl _ _).drew⟩
        have HEE : Hid (lb (xa6 [a0, a1, a2, a3, a4, a5, a6, a7]) = r1 ++ ⟨#[58, 58]⟩ ++ r2) := by
          show _ = _
          rw [HE.out, ← HRR.out.1, ← HRR.out.2]
          apply ByteArray.ext
          simp [lb, txt]
        clear hr1 hr2 hal hkey hta hcl HL1 HV1 HB1 HE HRR HBD HM hM8
        go_wp2_with fail
        go_region_with (go_at_call 111; refine (K.out _ _ _ (by first | exact HS | exact HD.out _ HS) (by first | exact .inl ⟨rfl, rfl⟩ | exact .inr ⟨rfl, rfl⟩)).mono ?_; rintro e w9 ⟨rfl, HS⟩)
        all_goals
          go_wp2
          go_ret
          exact ⟨by rw [HEE.out]; rfl, HS.out.2.2⟩
theorem atext_any (a : Option Addr) (n c : Nat) (zs : List Int) (w : World) (hr : Rd w a zs) (hl : zs.length = n) (hn : n = 4 ∨ n = 16) (hL : LayT w) :
    Calls Tryz.prog 44 #[.slice a n c] w fun e w' => e = .returned (.string (lb ((xaddr zs).getD []))) ∧ Hid (Below w.heap.size w w') := by
  rcases hn with rfl | rfl
  · have e : (xaddr zs).getD [] = xjoin 46 (zs.map fun z => xdec z.toNat) := by unfold xaddr; rw [if_pos hl]; rfl
    have K := Lib.hid (stext_any a 4 c zs w hr hl (by omega) hL)
    rw [e]
    clear hr hL e
    go_enter Tryz.func44, Tryz.ntmps44
    go_wp2_with fail
    refine K.out.mono ?_
    rintro e w1 ⟨rfl, H⟩
    go_wp2_with fail
    go_ret
    exact ⟨rfl, H.out⟩
  · have e : (xaddr zs).getD [] = xa6 (xprs zs) := by unfold xaddr; rw [if_neg (by omega), if_pos hl]; rfl
    have K := Lib.hid (ltext_any a c zs w hr hl hL)
    rw [e]
    clear hr hL e
    go_enter Tryz.func44, Tryz.ntmps44
    go_wp2_with fail
    refine K.out.mono ?_
    rintro e w1 ⟨rfl, H⟩
    go_wp2_with fail
    go_ret
    exact ⟨rfl, H.out⟩
def xaddrR (zs : List Int) : ByteArray × Int := match xaddr zs with | some s => (lb s, 0) | none => (⟨#[]⟩, 7)
set_option maxHeartbeats 1000000 in
theorem address_any (a : Option Addr) (n c : Nat) (zs : List Int) (w : World) (hr : Rd w a zs) (hl : zs.length = n) (hL : LayT w) :
    Calls Tryz.prog 15 #[.slice a n c] w fun e w' => e = .returned (.tuple #[.string (xaddrR zs).1, .int .i64 (xaddrR zs).2]) ∧ Hid (Below w.heap.size w w') := by
  by_cases hn : n = 4 ∨ n = 16
  · have K := Lib.hid (atext_any a n c zs w hr hl hn hL)
    obtain ⟨s, hs⟩ := xaddr_some zs (by rw [hl]; exact hn)
    have e : xaddrR zs = (lb s, 0) := by unfold xaddrR; rw [hs]
    rw [e]
    rw [hs] at K
    simp only [Option.getD_some] at K
    clear hr hL e hl hs
    rcases hn with rfl | rfl
    all_goals
      go_enter Tryz.func15, Tryz.ntmps15
      go_wp2_with fail
      refine K.out.mono ?_
      rintro e w1 ⟨rfl, H⟩
      go_wp2_with fail
      go_ret2
      exact ⟨rfl, H.out⟩
  · have e : xaddrR zs = (⟨#[]⟩, 7) := by unfold xaddrR xaddr; rw [if_neg (by omega), if_neg (by omega)]
    rw [e]
    have h1 : ((n : Int) != 4) = true := by simp; omega
    have h2 : ((n : Int) != 16) = true := by simp; omega
    clear hr hL e hl hn
    go_enter Tryz.func15, Tryz.ntmps15
    go_wp2_with fail
    go_ret2
    exact ⟨rfl, Below.refl _ _⟩
end Go.Proofs.YtfkfjodfjgjbkaaGreatDoor
/- Texts in quotes, as the program writes them. -/
namespace Go.Proofs.YtfkfjodfjgjbkaaGreatDoor
open Go.ChangeShapes Go.WideShapes Go.ChangeAt Go.RowKit
set_option linter.unusedVariables false
set_option linter.unusedSimpArgs false

theorem xq_snoc (l : List Int) (c : Int) : xq (l ++ [c]) = xq l ++ xq1 c := by simp [xq]
theorem xq1_len (c : Int) : (xq1 c).length ≤ 4 := by unfold xq1; split <;> (try split) <;> simp
theorem xq_len (l : List Int) : (xq l).length ≤ 4 * l.length := by
  induction l with
  | nil => simp [xq]
  | cons c l ih =>
    have := xq1_len c
    simp only [xq, List.flatMap_cons, List.length_append, List.length_cons] at ih ⊢
    omega
/-- What was written so far. -/
def qs (l : List Int) : List Value := (34 :: xq l).map (Value.int .u8)
set_option maxRecDepth 100000 in
set_option maxHeartbeats 2000000 in
theorem quote_any (s : ByteArray) (w : World) (hs : s.size ≤ 35184372088000) :
    Calls Tryz.prog 18 #[.string s] w fun e w' => e = .returned (.string (xqw s)) ∧ Hid (Below w.heap.size w w') := by
  have H0 : Hid (GS w.heap.size (w.alloc (.cells #[.pointer none, .slice none 0 0] 81)) w.heap.size [] ∧ Below w.heap.size w (w.alloc (.cells #[.pointer none, .slice none 0 0] 81))) := ⟨GS.fresh w, (Below.refl _ _).alloc (Nat.le_refl _) _⟩
  go_enter Tryz.func18, Tryz.ntmps18
  go_wp2_with fail
  refine (wbyte w.heap.size w.heap.size _ 34 _ H0.out.1 (Nat.le_refl _) (by simp)).mono ?_
  rintro e w1 ⟨rfl, H1⟩
  have HX : Hid (GS w.heap.size w1 w.heap.size (qs []) ∧ Below w.heap.size w w1) := ⟨H1.out.1, H0.out.2.trans H1.out.2⟩
  clear H0 H1
  go_wp2_with fail
  go_loopw [9] (fun x wr => ∃ k : Nat, k ≤ s.size ∧ x = .int .i64 k ∧ Hid (GS w.heap.size wr w.heap.size (qs ((nums s).take k)) ∧ Below w.heap.size w wr)) (fun x _ => s.size - (intOf x).toNat)
  case atStart => exact ⟨0, Nat.zero_le _, rfl, HX⟩
  case round =>
    obtain ⟨k, hk, rfl, HW⟩ := hrel
    clear HX
    by_cases hlt : k < s.size
    · have hlt' : (k : Int) < (s.size : Int) := by omega
      have hbd := nums_bd s k
      have HT : Hid ((nums s).take (k + 1) = (nums s).take k ++ [(nums s).getD k 0]) := take_snoc _ _ (by rw [nums_len]; exact hlt)
      rw [nums_at s k hlt] at hbd HT
      have HM : Hid ((qs ((nums s).take k)).length ≤ 4 * k + 1) := by
        have h1 := xq_len ((nums s).take k)
        have h2 : ((nums s).take k).length ≤ k := by simp; omega
        show _ ≤ _
        simp only [qs, List.length_map, List.length_cons]
        omega
      have HN : Hid (qs ((nums s).take (k + 1)) = qs ((nums s).take k) ++ (xq1 (s[k].toNat : Int)).map (Value.int .u8)) := by show _ = _; rw [HT.out]; simp only [qs, xq_snoc, List.map_cons, List.map_append, List.cons_append]
      by_cases hq : (s[k].toNat : Int) = 34 ∨ (s[k].toNat : Int) = 92
      · have HX : Hid (xq1 (s[k].toNat : Int) = [92, (s[k].toNat : Int)]) := by show _ = _; unfold xq1; rw [if_neg (by omega), if_pos hq]
        have go : ∀ wr', wr' = wr → Hid (GS w.heap.size wr' w.heap.size (qs ((nums s).take k)) ∧ Below w.heap.size w wr') := by rintro _ rfl; exact HW
        clear go
        rcases hq with hq | hq
        all_goals
          rw [hq] at HX HN
          go_wp2_with fail
          refine (wbyte w.heap.size w.heap.size _ 92 _ HW.out.1 (Nat.le_refl _) (by have := HM.out; omega)).mono ?_
          rintro e w2 ⟨rfl, H2⟩
          go_wp2_with fail
          refine (wbyte w.heap.size w.heap.size _ _ _ H2.out.1 (Nat.le_refl _) (by have := HM.out; simp only [List.length_append, List.length_singleton]; omega)).mono ?_
          rintro e w3 ⟨rfl, H3⟩
          go_wp2
          refine ⟨⟨k + 1, by omega, by go_num, ?_, (HW.out.2.trans H2.out.2).trans H3.out.2⟩, by simp [intOf]; omega⟩
          rw [HN.out, HX.out]
          simpa only [List.map_cons, List.map_nil, List.append_assoc, List.cons_append, List.nil_append] using H3.out.1
      · have hq1 : ((s[k].toNat : Int) == 34) = false := by rw [beq_eq_false_iff_ne]; omega
        have hq2 : ((s[k].toNat : Int) == 92) = false := by rw [beq_eq_false_iff_ne]; omega
        by_cases hu : (s[k].toNat : Int) < 32 ∨ 126 < (s[k].toNat : Int)
        · have HX : Hid (xq1 (s[k].toNat : Int) = [92, 48 + (s[k].toNat : Int) / 100, 48 + (s[k].toNat : Int) / 10 % 10, 48 + (s[k].toNat : Int) % 10]) := by show _ = _; unfold xq1; rw [if_pos hu]
          clear hq
          rcases hu with hu | hu
          all_goals
            go_wp2_with fail
            refine (wbyte w.heap.size w.heap.size _ 92 _ HW.out.1 (Nat.le_refl _) (by have := HM.out; omega)).mono ?_
            rintro e w2 ⟨rfl, H2⟩
            go_wp2_with fail
            refine (wbyte w.heap.size w.heap.size _ _ _ H2.out.1 (Nat.le_refl _) (by have := HM.out; simp only [List.length_append, List.length_singleton]; omega)).mono ?_
            rintro e w3 ⟨rfl, H3⟩
            go_wp2_with fail
            refine (wbyte w.heap.size w.heap.size _ _ _ H3.out.1 (Nat.le_refl _) (by have := HM.out; simp only [List.length_append, List.length_singleton]; omega)).mono ?_
            rintro e w4 ⟨rfl, H4⟩
            go_wp2_with fail
            refine (wbyte w.heap.size w.heap.size _ _ _ H4.out.1 (Nat.le_refl _) (by have := HM.out; simp only [List.length_append, List.length_singleton]; omega)).mono ?_
            rintro e w5 ⟨rfl, H5⟩
            go_wp2
            refine ⟨⟨k + 1, by omega, by go_num, ?_, ((HW.out.2.trans H2.out.2).trans H3.out.2).trans (H4.out.2.trans H5.out.2)⟩, by simp [intOf]; omega⟩
            rw [HN.out, HX.out]
            simpa only [List.map_cons, List.map_nil, List.append_assoc, List.cons_append, List.nil_append] using H5.out.1
        · have HX : Hid (xq1 (s[k].toNat : Int) = [(s[k].toNat : Int)]) := by show _ = _; unfold xq1; rw [if_neg hu, if_neg hq]
          have hu1 : ¬ (s[k].toNat : Int) < 32 := by omega
          have hu2 : ¬ 126 < (s[k].toNat : Int) := by omega
          clear hu hq
          go_wp2_with fail
          refine (wbyte w.heap.size w.heap.size _ _ _ HW.out.1 (Nat.le_refl _) (by have := HM.out; omega)).mono ?_
          rintro e w2 ⟨rfl, H2⟩
          go_wp2
          refine ⟨⟨k + 1, by omega, by go_num, ?_, HW.out.2.trans H2.out.2⟩, by simp [intOf]; omega⟩
          rw [HN.out, HX.out]
          simpa only [List.map_cons, List.map_nil, List.append_assoc, List.cons_append, List.nil_append] using H2.out.1
    · have hge : (s.size : Int) ≤ (k : Int) := by omega
      have hge' : ¬ (k : Int) < (s.size : Int) := by omega
      have ek : (nums s).take k = nums s := List.take_of_length_le (by rw [nums_len]; omega)
      have HG : Hid (GS w.heap.size wr w.heap.size (qs (nums s))) := by have := HW.out.1; rw [ek] at this; exact this
      have hl := xq_len (nums s)
      rw [nums_len] at hl
      have HQ : Hid (qs (nums s) ++ [.int .u8 34] = Lib.byteCells (txt (xquote (nums s)))) := by
        show _ = _
        rw [bc_txt _ (xquote_by _ (nums_all' s))]
        simp [qs, xquote]
      have hlq : (txt (xquote (nums s))).length ≤ 9223372036854775807 := by
        rw [txt_len]; simp only [xquote, List.length_cons, List.length_append, List.length_nil]; omega
      have HM : Hid ((qs (nums s)).length + 1 ≤ 140737488355328) := by show _ ≤ _; simp only [qs, List.length_map, List.length_cons]; omega
      clear ek hl
      generalize hLL : txt (xquote (nums s)) = L at *
      have HLL : Hid (txt (xquote (nums s)) = L) := hLL
      clear hLL
      go_wp2_with fail
      refine (wbyte w.heap.size w.heap.size _ 34 _ HG.out (Nat.le_refl _) HM.out).mono ?_
      rintro e w2 ⟨rfl, H2⟩
      have HG2 : Hid (GS w.heap.size w2 w.heap.size (Lib.byteCells L)) := by have := H2.out.1; rw [HQ.out] at this; exact this
      go_wp2_with fail
      refine (wstring w.heap.size w.heap.size L _ HG2.out hlq).mono ?_
      rintro e w3 ⟨rfl, H3⟩
      go_wp2
      go_ret
      refine ⟨?_, (HW.out.2.trans H2.out.2).trans H3.out⟩
      unfold xqw lb
      rw [HLL.out]
      rfl
end Go.Proofs.YtfkfjodfjgjbkaaGreatDoor
