/- What KnownOwn needs besides. -/
import Derived.Test.YtkjnbgekaifdfaaGreatWgi
import Derived.Test.YtkjnbgekaifdfaaGreatRows
import Derived.WalkSpells
import Derived.Deep.QuietTactic
import Derived.BigQuiet
import Derived.Deep.RegionHeld3
import Derived.Lib.Hide
import Derived.Deep.CutBlock
set_option maxRecDepth 100000
namespace Go.Proofs.YtkjnbgekaifdfaaGreat
open Go.ChangeShapes Go.WideShapes Go.ChangeAt Go.RowKit
set_option linter.unusedVariables false
set_option linter.unusedSimpArgs false
set_option maxRecDepth 100000 in
set_option maxHeartbeats 1000000 in
theorem sameT_yes (a b : Option Addr) (n c d : Nat) (ss : List ByteArray) (w : World) (hr : RdT w a ss) (hr' : RdT w b ss) (hl : ss.length = n) (hn : n ≤ 9223372036854775807) :
    Calls Tryz.prog 120 #[.slice a n c, .slice b n d] w fun e w' => e = .returned (.bool true) ∧ Hid (Below w.heap.size w w') := by
  have HR : Hid (RdT w a ss ∧ RdT w b ss) := ⟨hr, hr'⟩
  have HL : Hid (ss.length = n) := hl
  clear hr hr' hl
  go_enter Tryz.func120, Tryz.ntmps120
  go_wp2_with fail
  go_loopw [5] (fun x wr => ∃ k : Nat, k ≤ n ∧ x = .int .i64 k ∧ Hid (Below w.heap.size w wr)) (fun x _ => n - (intOf x).toNat)
  case atStart => exact ⟨0, Nat.zero_le _, rfl, Below.refl _ _⟩
  case round =>
    obtain ⟨k, hk, rfl, HB⟩ := hrel
    by_cases hlt : k < n
    · have hlt' : (k : Int) < (n : Int) := by omega
      have hks : k < ss.length := by rw [HL.out]; exact hlt
      obtain ⟨b1, o1, rfl, l1, c1⟩ := (HR.out.1.below HB.out).at k hks
      obtain ⟨b2, o2, rfl, l2, c2⟩ := (HR.out.2.below HB.out).at k hks
      generalize ss[k] = s at *
      go_wp2_with fail
      go_quiet (fail)
      have HB2 : Hid (Below w.heap.size w (wr.drewN nq)) := HB.out.trans ⟨rfl, rfl, rfl, Nat.le_refl _, fun _ _ => rfl⟩
      clear c1 c2
      generalize wr.drewN nq = W2 at *
      go_wp2
      exact ⟨⟨k + 1, by omega, by go_num, HB2⟩, by simp [intOf]; omega⟩
    · have hge : (n : Int) ≤ (k : Int) := by omega
      go_wp2
      go_ret
      exact ⟨rfl, HB.out⟩
end Go.Proofs.YtkjnbgekaifdfaaGreat
namespace Go.Proofs.YtkjnbgekaifdfaaGreat
open Go.ChangeShapes Go.WideShapes Go.ChangeAt Go.RowKit
set_option linter.unusedVariables false
set_option linter.unusedSimpArgs false
set_option maxRecDepth 100000 in
theorem sameN_yes (a b : Option Addr) (n c d : Nat) (ss : List ByteArray) (w : World) (hr : RdT w a ss) (hr' : RdT w b ss) (hl : ss.length = n) (hn : n ≤ 9223372036854775807) :
    Calls Tryz.prog 101 #[.slice a n c, .slice b n d] w fun e w' => e = .returned (.bool true) ∧ Hid (Below w.heap.size w w') := by
  have HX : Hid (Calls Tryz.prog 120 #[.slice a n c, .slice b n d] w fun e w' => e = .returned (.bool true) ∧ Hid (Below w.heap.size w w')) := sameT_yes a b n c d ss w hr hr' hl hn
  clear hr hr' hl
  go_enter Tryz.func101, Tryz.ntmps101
  go_wp2_with fail
  refine HX.out.mono ?_
  rintro e w1 ⟨rfl, H1⟩
  go_wp2
  go_ret
  exact ⟨rfl, H1⟩
end Go.Proofs.YtkjnbgekaifdfaaGreat
namespace Go.Proofs.YtkjnbgekaifdfaaGreat
open Go.ChangeShapes Go.WideShapes Go.ChangeAt Go.RowKit
set_option linter.unusedVariables false
set_option linter.unusedSimpArgs false
set_option maxRecDepth 100000 in
set_option maxHeartbeats 400000 in
theorem same_yes (a b : Option Addr) (n c d : Nat) (zs : List Int) (w : World) (hr : Rd w a zs) (hr' : Rd w b zs) (hl : zs.length = n) :
    Calls Tryz.prog 13 #[.slice a n c, .slice b n d] w fun e w' => e = .returned (.bool true) ∧ w' = w := by
  have h1 := conv_rd a n c zs w hr hl
  have h2 := conv_rd b n d zs w hr' hl
  clear hr hr'
  generalize txt zs = t at *
  go_enter Tryz.func13, Tryz.ntmps13
  go_wp2
  go_ret
  exact ⟨rfl, rfl⟩
end Go.Proofs.YtkjnbgekaifdfaaGreat
namespace Go.Proofs.YtkjnbgekaifdfaaGreat
open Go.ChangeShapes Go.WideShapes Go.ChangeAt Go.RowKit
set_option linter.unusedVariables false
set_option linter.unusedSimpArgs false
/-- Where the walk stands: both lie in blocks of their own, and can be read. -/
def SdSt (w W : World) (b : Nat) (x y : DA) (d : Dat) : Prop := DBox W b x ∧ DBox W (b + 1) y ∧ DRd W x d ∧ DRd W y d ∧ Below w.heap.size w W
theorem SdSt.go {w W W' : World} {b : Nat} {x y : DA} {d : Dat} (h : SdSt w W b x y d) (hb : Below W.heap.size W W') : SdSt w W' b x y d :=
  ⟨h.1.below hb, h.2.1.below hb, h.2.2.1.below hb, h.2.2.2.1.below hb, h.2.2.2.2.trans (hb.mono h.2.2.2.2.size)⟩
set_option maxRecDepth 100000 in
set_option maxHeartbeats 2000000 in
theorem samedata_yes (x y : DA) (d : Dat) (w : World) (hx : DRd w x d) (hy : DRd w y d) :
    Calls Tryz.prog 102 #[.agg #[.slice x.p1.a x.p1.n x.p1.c, .slice x.p2.a x.p2.n x.p2.c, .slice x.p3.a x.p3.n x.p3.c, .slice x.p4.a x.p4.n x.p4.c], .agg #[.slice y.p1.a y.p1.n y.p1.c, .slice y.p2.a y.p2.n y.p2.c, .slice y.p3.a y.p3.n y.p3.c, .slice y.p4.a y.p4.n y.p4.c]] w fun e w' => e = .returned (.bool true) ∧ Hid (Below w.heap.size w w') := by
  have hb1 : Below w.heap.size w (w.alloc (.cells #[.slice x.p1.a x.p1.n x.p1.c, .slice x.p2.a x.p2.n x.p2.c, .slice x.p3.a x.p3.n x.p3.c, .slice x.p4.a x.p4.n x.p4.c] 60)) := (Below.refl _ _).alloc (Nat.le_refl _) _
  have HX := DBox.new w x
  have hx1 := hx.below hb1
  have hy1 := hy.below hb1
  have e1 : y.p1.n = x.p1.n := by rw [← hx.h1.len, ← hy.h1.len]
  have e2 : y.p2.n = x.p2.n := by rw [← hx.h2.len, ← hy.h2.len]
  have e3 : y.p3.n = x.p3.n := by rw [← hx.h3.len, ← hy.h3.len]
  have e4 : y.p4.n = x.p4.n := by rw [← hx.h4.len, ← hy.h4.len]
  obtain ⟨W0, hW0⟩ : ∃ W, W = w.alloc (.cells #[.slice x.p1.a x.p1.n x.p1.c, .slice x.p2.a x.p2.n x.p2.c, .slice x.p3.a x.p3.n x.p3.c, .slice x.p4.a x.p4.n x.p4.c] 60) := ⟨_, rfl⟩
  have hs0 : W0.heap.size = w.heap.size + 1 := by rw [hW0]; simp
  rw [← hW0] at hb1 HX hx1 hy1
  have hb2 : Below W0.heap.size W0 (W0.alloc (.cells #[.slice y.p1.a y.p1.n y.p1.c, .slice y.p2.a y.p2.n y.p2.c, .slice y.p3.a y.p3.n y.p3.c, .slice y.p4.a y.p4.n y.p4.c] 60)) := (Below.refl _ _).alloc (Nat.le_refl _) _
  have HY := DBox.new W0 y
  have H : Hid (∃ b c, b = w.heap.size ∧ c = w.heap.size + 1 ∧ DBox (W0.alloc (.cells #[.slice y.p1.a y.p1.n y.p1.c, .slice y.p2.a y.p2.n y.p2.c, .slice y.p3.a y.p3.n y.p3.c, .slice y.p4.a y.p4.n y.p4.c] 60)) b x ∧ DBox (W0.alloc (.cells #[.slice y.p1.a y.p1.n y.p1.c, .slice y.p2.a y.p2.n y.p2.c, .slice y.p3.a y.p3.n y.p3.c, .slice y.p4.a y.p4.n y.p4.c] 60)) c y ∧
      DRd (W0.alloc (.cells #[.slice y.p1.a y.p1.n y.p1.c, .slice y.p2.a y.p2.n y.p2.c, .slice y.p3.a y.p3.n y.p3.c, .slice y.p4.a y.p4.n y.p4.c] 60)) x d ∧ DRd (W0.alloc (.cells #[.slice y.p1.a y.p1.n y.p1.c, .slice y.p2.a y.p2.n y.p2.c, .slice y.p3.a y.p3.n y.p3.c, .slice y.p4.a y.p4.n y.p4.c] 60)) y d ∧ Below w.heap.size w (W0.alloc (.cells #[.slice y.p1.a y.p1.n y.p1.c, .slice y.p2.a y.p2.n y.p2.c, .slice y.p3.a y.p3.n y.p3.c, .slice y.p4.a y.p4.n y.p4.c] 60))) :=
    ⟨w.heap.size, w.heap.size + 1, rfl, rfl, HX.below hb2, by rw [← hs0]; exact HY, hx1.below hb2, hy1.below hb2, hb1.trans (hb2.mono hb1.size)⟩
  clear hx hy hb1 HX hx1 hy1 hb2 HY hs0
  rw [hW0] at H
  clear hW0 W0
  obtain ⟨⟨a1, n1, k1⟩, ⟨a2, n2, k2⟩, ⟨a3, n3, k3⟩, ⟨a4, n4, k4⟩⟩ := x
  obtain ⟨⟨b1, m1, j1⟩, ⟨b2, m2, j2⟩, ⟨b3, m3, j3⟩, ⟨b4, m4, j4⟩⟩ := y
  simp only at e1 e2 e3 e4 H ⊢
  subst e1 e2 e3 e4
  go_enter Tryz.func102, Tryz.ntmps102
  go_upto_region 1 with fail
  generalize ((w.alloc (.cells #[.slice a1 m1 k1, .slice a2 m2 k2, .slice a3 m3 k3, .slice a4 m4 k4] 60)).alloc (.cells #[.slice b1 m1 j1, .slice b2 m2 j2, .slice b3 m3 j3, .slice b4 m4 j4] 60)) = W1 at *
  obtain ⟨b, b', hb, hb', X, Y, DX, DY, BB⟩ := H.out
  clear H
  rw [← hb]
  rw [← hb] at hb'
  subst hb'
  have Hb : Hid (b = w.heap.size) := hb
  clear hb
  have H : Hid (SdSt w W1 b ⟨⟨a1, m1, k1⟩, ⟨a2, m2, k2⟩, ⟨a3, m3, k3⟩, ⟨a4, m4, k4⟩⟩ ⟨⟨b1, m1, j1⟩, ⟨b2, m2, j2⟩, ⟨b3, m3, j3⟩, ⟨b4, m4, j4⟩⟩ d) := ⟨X, Y, DX, DY, BB⟩
  clear X Y DX DY BB
  have x0 := H.out.1.1
  have x1 := H.out.1.2.1
  have x2 := H.out.1.2.2.1
  have y0 := H.out.2.1.1
  have y1 := H.out.2.1.2.1
  have y2 := H.out.2.1.2.2.1
  simp only at x0 x1 x2 y0 y1 y2
  go_wp2_with fail
  refine (sameT_yes a3 b3 m3 k3 j3 d.ts W1 H.out.2.2.1.h3.rd H.out.2.2.2.1.h3.rd H.out.2.2.1.h3.len (Nat.le_trans H.out.2.2.1.h3.cap.1 H.out.2.2.1.h3.cap.2)).mono ?_
  rintro e W2 ⟨rfl, H2⟩
  have H' : Hid (SdSt w W2 b ⟨⟨a1, m1, k1⟩, ⟨a2, m2, k2⟩, ⟨a3, m3, k3⟩, ⟨a4, m4, k4⟩⟩ ⟨⟨b1, m1, j1⟩, ⟨b2, m2, j2⟩, ⟨b3, m3, j3⟩, ⟨b4, m4, j4⟩⟩ d) := H.out.go H2.out
  clear H2 H x0 x1 x2 y0 y1 y2
  have x3 := H'.out.1.2.2.2.1
  have y3 := H'.out.2.1.2.2.2.1
  simp only at x3 y3
  go_wp2_with fail
  refine (same_yes a4 b4 m4 k4 j4 d.raw W2 H'.out.2.2.1.h4.rd H'.out.2.2.2.1.h4.rd H'.out.2.2.1.h4.len).mono ?_
  rintro e W3 ⟨rfl, rfl⟩
  clear x3 y3
  have hn1 : d.ns.length = m1 := H'.out.2.2.1.h1.len
  have hn2 : d.us.length = m2 := H'.out.2.2.1.h2.len
  have hm1 : m1 ≤ 9223372036854775807 := Nat.le_trans H'.out.2.2.1.h1.cap.1 H'.out.2.2.1.h1.cap.2
  have hm2 : m2 ≤ 9223372036854775807 := Nat.le_trans H'.out.2.2.1.h2.cap.1 H'.out.2.2.1.h2.cap.2
  have HN : Hid (d.ns.length = m1 ∧ d.us.length = m2) := ⟨hn1, hn2⟩
  clear hn1 hn2
  go_wp2_with fail
  go_loopw [5] (fun v wr => ∃ k : Nat, k ≤ m1 ∧ v = .int .i64 (k : Int) ∧ Hid (SdSt w wr b ⟨⟨a1, m1, k1⟩, ⟨a2, m2, k2⟩, ⟨a3, m3, k3⟩, ⟨a4, m4, k4⟩⟩ ⟨⟨b1, m1, j1⟩, ⟨b2, m2, j2⟩, ⟨b3, m3, j3⟩, ⟨b4, m4, j4⟩⟩ d)) (fun v _ => m1 - (intOf v).toNat)
  case atStart => exact ⟨0, Nat.zero_le _, rfl, H'⟩
  case round =>
    obtain ⟨k, hk, rfl, H⟩ := hrel
    clear H'
    have x0 := H.out.1.1
    have y0 := H.out.2.1.1
    simp only at x0 y0
    by_cases hlt : k < m1
    · have hlt' : (k : Int) < (m1 : Int) := by omega
      have hki : k < d.ns.length := by rw [HN.out.1]; exact hlt
      obtain ⟨B1, o1, ha1, hl1, z1, hz1, hr1⟩ := H.out.2.2.1.h1.at k hki
      obtain ⟨B2, o2, ha2, hl2, z2, hz2, hr2⟩ := H.out.2.2.2.1.h1.at k hki
      simp only at ha1 ha2
      subst ha1 ha2
      have ez : z2.n = z1.n := by rw [← hr1.len, ← hr2.len]
      rw [ez] at hz2
      have KS : Hid (∀ W', Below wr.heap.size wr W' → Calls Tryz.prog 101 #[.slice z1.a z1.n z1.c, .slice z2.a z1.n z2.c] W' fun e w' => e = .returned (.bool true) ∧ Hid (Below W'.heap.size W' w')) :=
        fun W' hb => sameN_yes z1.a z2.a z1.n z1.c z2.c d.ns[k] W' (hr1.rd.below hb) (hr2.rd.below hb) hr1.len (Nat.le_trans hr1.cap.1 hr1.cap.2)
      have HBx : Hid (Below wr.heap.size wr wr.drew) := (Below.refl _ _).drew
      have hbx := H.out.1.2.2.2.2
      have hby := H.out.2.1.2.2.2.2
      clear hr1 hr2 ez
      generalize z1.a = za1 at *
      generalize z1.n = zn1 at *
      generalize z1.c = zc1 at *
      generalize z2.a = za2 at *
      generalize z2.c = zc2 at *
      go_wp2_with fail
      go_region_held3 (fun W => W.cell? ⟨b, 0, none⟩ = some (.slice (some ⟨B1, o1, none⟩) m1 k1) ∧ W.cell? ⟨b + 1, 0, none⟩ = some (.slice (some ⟨B2, o2, none⟩) m1 j1) ∧ W.cell? ⟨B1, o1 + k, none⟩ = some (.slice za1 zn1 zc1) ∧ W.cell? ⟨B2, o2 + k, none⟩ = some (.slice za2 zn1 zc2)) (go_keep) (first
        | (go_at_call 101; refine (KS.out _ HBx.out).mono ?_; rintro e wy ⟨rfl, HY⟩; have q0 : wy.cell? ⟨b, 0, none⟩ = some (.slice (some ⟨B1, o1, none⟩) m1 k1) := (HY.out.cell (p := ⟨b, 0, none⟩) hbx).trans x0; have q1 : wy.cell? ⟨b + 1, 0, none⟩ = some (.slice (some ⟨B2, o2, none⟩) m1 j1) := (HY.out.cell (p := ⟨b + 1, 0, none⟩) hby).trans y0; have q2 : wy.cell? ⟨B1, o1 + k, none⟩ = some (.slice za1 zn1 zc1) := (HY.out.cell (p := ⟨B1, o1 + k, none⟩) hl1).trans hz1; have q3 : wy.cell? ⟨B2, o2 + k, none⟩ = some (.slice za2 zn1 zc2) := (HY.out.cell (p := ⟨B2, o2 + k, none⟩) hl2).trans hz2))
      have H2 : Hid (SdSt w wy b ⟨⟨some ⟨B1, o1, none⟩, m1, k1⟩, ⟨a2, m2, k2⟩, ⟨a3, m3, k3⟩, ⟨a4, m4, k4⟩⟩ ⟨⟨some ⟨B2, o2, none⟩, m1, j1⟩, ⟨b2, m2, j2⟩, ⟨b3, m3, j3⟩, ⟨b4, m4, j4⟩⟩ d) := H.out.go (HBx.out.trans HY.out)
      clear q0 q1 q2 q3 x0 y0 hz1 hz2 HY KS H HBx
      go_wp2_with fail
      exact ⟨⟨k + 1, by omega, by go_num, H2⟩, by simp [intOf]; omega⟩
    · have hge : ¬ (k : Int) < (m1 : Int) := by omega
      go_wp2_with fail
      obtain ⟨wz, hz⟩ : ∃ z, z = wr := ⟨_, rfl⟩
      subst hz
      clear x0 y0
      go_loopw [6] (fun v wr => ∃ k : Nat, k ≤ m2 ∧ v = .int .i64 (k : Int) ∧ Hid (SdSt w wr b ⟨⟨a1, m1, k1⟩, ⟨a2, m2, k2⟩, ⟨a3, m3, k3⟩, ⟨a4, m4, k4⟩⟩ ⟨⟨b1, m1, j1⟩, ⟨b2, m2, j2⟩, ⟨b3, m3, j3⟩, ⟨b4, m4, j4⟩⟩ d)) (fun v _ => m2 - (intOf v).toNat)
      case atStart => exact ⟨0, Nat.zero_le _, rfl, H⟩
      case round =>
        obtain ⟨i, hi, rfl, H'⟩ := hrel
        clear H
        have x1 := H'.out.1.2.1
        have y1 := H'.out.2.1.2.1
        simp only at x1 y1
        by_cases hit : i < m2
        · have hit' : (i : Int) < (m2 : Int) := by omega
          have hii : i < d.us.length := by rw [HN.out.2]; exact hit
          obtain ⟨B1, o1, ha1, hl1, hz1⟩ := H'.out.2.2.1.h2.at i hii
          obtain ⟨B2, o2, ha2, hl2, hz2⟩ := H'.out.2.2.2.1.h2.at i hii
          simp only at ha1 ha2
          subst ha1 ha2
          generalize d.us[i] = u at *
          go_wp2_with fail
          go_quiet (fail)
          have H2 : Hid (SdSt w (wr.drewN nq) b ⟨⟨a1, m1, k1⟩, ⟨some ⟨B1, o1, none⟩, m2, k2⟩, ⟨a3, m3, k3⟩, ⟨a4, m4, k4⟩⟩ ⟨⟨b1, m1, j1⟩, ⟨some ⟨B2, o2, none⟩, m2, j2⟩, ⟨b3, m3, j3⟩, ⟨b4, m4, j4⟩⟩ d) := H'.out.go ⟨rfl, rfl, rfl, Nat.le_refl _, fun _ _ => rfl⟩
          clear x1 y1 hz1 hz2 H'
          generalize wr.drewN nq = Wq at *
          go_wp2_with fail
          exact ⟨⟨i + 1, by omega, by go_num, H2⟩, by simp [intOf]; omega⟩
        · have hige : ¬ (i : Int) < (m2 : Int) := by omega
          go_wp2_with fail
          go_ret
          exact ⟨rfl, H'.out.2.2.2.2⟩
end Go.Proofs.YtkjnbgekaifdfaaGreat
namespace Go.Proofs.YtkjnbgekaifdfaaGreat
open Go.ChangeShapes Go.WideShapes Go.ChangeAt Go.RowKit
set_option linter.unusedVariables false
set_option linter.unusedSimpArgs false
theorem block_lt {W : World} {b : Nat} {o : Obj} (h : W.heap[b]? = some o) : b < W.heap.size := by
  rcases Nat.lt_or_ge b W.heap.size with h1 | h1
  · exact h1
  · rw [Array.getElem?_eq_none h1] at h; cases h
theorem block_alloc {W : World} {b : Nat} {o : Obj} (h : W.heap[b]? = some o) (x : Obj) : (W.alloc x).heap[b]? = some o := (Below.heap_alloc W x b (block_lt h)).trans h
end Go.Proofs.YtkjnbgekaifdfaaGreat
namespace Go.Proofs.YtkjnbgekaifdfaaGreat
open Go.ChangeShapes Go.WideShapes Go.ChangeAt Go.RowKit
set_option linter.unusedVariables false
set_option linter.unusedSimpArgs false
/-- Two lists are told the same by f, whatever is made besides. -/
def Sames (f : Nat) (w : World) (x y : Value) : Prop := ∀ W, Below w.heap.size w W → Calls Tryz.prog f #[x, y] W fun e w' => e = .returned (.bool true) ∧ Below W.heap.size W w'
set_option maxRecDepth 100000 in
set_option maxHeartbeats 4000000 in
theorem sameM (id : Int) (rs : Bool) (op : Int) (aa tc rd ra ad cd : Bool) (rc : Int) (a1 a2 a3 a4 d1 d2 d3 d4 : Option Addr) (n1 n2 n3 n4 c1 c2 c3 c4 m1 m2 m3 m4 k1 k2 k3 k4 : Nat) (w : World)
    (h1 : Sames 45 w (.slice a1 n1 c1) (.slice d1 m1 k1)) (h2 : Sames 46 w (.slice a2 n2 c2) (.slice d2 m2 k2)) (h3 : Sames 46 w (.slice a3 n3 c3) (.slice d3 m3 k3)) (h4 : Sames 46 w (.slice a4 n4 c4) (.slice d4 m4 k4)) :
    Calls Tryz.prog 20 #[.agg #[.int .u16 id, .bool rs, .int .i64 op, .bool aa, .bool tc, .bool rd, .bool ra, .bool ad, .bool cd, .int .i64 rc, .slice a1 n1 c1, .slice a2 n2 c2, .slice a3 n3 c3, .slice a4 n4 c4], .agg #[.int .u16 id, .bool rs, .int .i64 op, .bool aa, .bool tc, .bool rd, .bool ra, .bool ad, .bool cd, .int .i64 rc, .slice d1 m1 k1, .slice d2 m2 k2, .slice d3 m3 k3, .slice d4 m4 k4]] w fun e w' => e = .returned (.bool true) ∧ Below w.heap.size w w' := by
  have H1 : Hid (Sames 45 w (.slice a1 n1 c1) (.slice d1 m1 k1)) := h1
  have H2 : Hid (Sames 46 w (.slice a2 n2 c2) (.slice d2 m2 k2)) := h2
  have H3 : Hid (Sames 46 w (.slice a3 n3 c3) (.slice d3 m3 k3)) := h3
  have H4 : Hid (Sames 46 w (.slice a4 n4 c4) (.slice d4 m4 k4)) := h4
  clear h1 h2 h3 h4
  go_enter Tryz.func20, Tryz.ntmps20
  go_wp2_with fail
  obtain ⟨W0, hW0⟩ : ∃ W0, W0 = (w.alloc (.cells #[.int .u16 id, .bool rs, .int .i64 op, .bool aa, .bool tc, .bool rd, .bool ra, .bool ad, .bool cd, .int .i64 rc, .slice a1 n1 c1, .slice a2 n2 c2, .slice a3 n3 c3, .slice a4 n4 c4] 26)).alloc (.cells #[.int .u16 id, .bool rs, .int .i64 op, .bool aa, .bool tc, .bool rd, .bool ra, .bool ad, .bool cd, .int .i64 rc, .slice d1 m1 k1, .slice d2 m2 k2, .slice d3 m3 k3, .slice d4 m4 k4] 26) := ⟨_, rfl⟩
  rw [← hW0]
  have HB0 : Hid (Below w.heap.size w W0 ∧ W0.heap[w.heap.size]? = some (.cells #[.int .u16 id, .bool rs, .int .i64 op, .bool aa, .bool tc, .bool rd, .bool ra, .bool ad, .bool cd, .int .i64 rc, .slice a1 n1 c1, .slice a2 n2 c2, .slice a3 n3 c3, .slice a4 n4 c4] 26) ∧ W0.heap[w.heap.size + 1]? = some (.cells #[.int .u16 id, .bool rs, .int .i64 op, .bool aa, .bool tc, .bool rd, .bool ra, .bool ad, .bool cd, .int .i64 rc, .slice d1 m1 k1, .slice d2 m2 k2, .slice d3 m3 k3, .slice d4 m4 k4] 26)) := by
    rw [hW0]
    refine ⟨((Below.refl _ _).alloc (Nat.le_refl _) _).alloc (by simp) _, block_alloc (alloc_at _ _) _, ?_⟩
    have := alloc_at (w.alloc (.cells #[.int .u16 id, .bool rs, .int .i64 op, .bool aa, .bool tc, .bool rd, .bool ra, .bool ad, .bool cd, .int .i64 rc, .slice a1 n1 c1, .slice a2 n2 c2, .slice a3 n3 c3, .slice a4 n4 c4] 26)) (.cells #[.int .u16 id, .bool rs, .int .i64 op, .bool aa, .bool tc, .bool rd, .bool ra, .bool ad, .bool cd, .int .i64 rc, .slice d1 m1 k1, .slice d2 m2 k2, .slice d3 m3 k3, .slice d4 m4 k4] 26)
    simp only [World.size_alloc] at this
    exact this
  clear hW0
  refine (H1.out W0 HB0.out.1).mono ?_
  rintro e w1 ⟨rfl, hb1⟩
  have HB1 : Hid (Below w.heap.size w w1 ∧ w1.heap[w.heap.size]? = some (.cells #[.int .u16 id, .bool rs, .int .i64 op, .bool aa, .bool tc, .bool rd, .bool ra, .bool ad, .bool cd, .int .i64 rc, .slice a1 n1 c1, .slice a2 n2 c2, .slice a3 n3 c3, .slice a4 n4 c4] 26) ∧ w1.heap[w.heap.size + 1]? = some (.cells #[.int .u16 id, .bool rs, .int .i64 op, .bool aa, .bool tc, .bool rd, .bool ra, .bool ad, .bool cd, .int .i64 rc, .slice d1 m1 k1, .slice d2 m2 k2, .slice d3 m3 k3, .slice d4 m4 k4] 26)) := ⟨HB0.out.1.trans (hb1.mono HB0.out.1.size), (hb1.block _ (block_lt HB0.out.2.1)).trans HB0.out.2.1, (hb1.block _ (block_lt HB0.out.2.2)).trans HB0.out.2.2⟩
  clear hb1
  have p1 := block_lt HB1.out.2.1
  have q1 := block_lt HB1.out.2.2
  have x1 : w1.cell? ⟨w.heap.size, 11, none⟩ = some (.slice a2 n2 c2) := cell_of_block HB1.out.2.1 rfl
  have y1 : w1.cell? ⟨w.heap.size + 1, 11, none⟩ = some (.slice d2 m2 k2) := cell_of_block HB1.out.2.2 rfl
  go_wp2_with fail
  refine (H2.out w1 HB1.out.1).mono ?_
  rintro e w2 ⟨rfl, hb2⟩
  have HB2 : Hid (Below w.heap.size w w2 ∧ w2.heap[w.heap.size]? = some (.cells #[.int .u16 id, .bool rs, .int .i64 op, .bool aa, .bool tc, .bool rd, .bool ra, .bool ad, .bool cd, .int .i64 rc, .slice a1 n1 c1, .slice a2 n2 c2, .slice a3 n3 c3, .slice a4 n4 c4] 26) ∧ w2.heap[w.heap.size + 1]? = some (.cells #[.int .u16 id, .bool rs, .int .i64 op, .bool aa, .bool tc, .bool rd, .bool ra, .bool ad, .bool cd, .int .i64 rc, .slice d1 m1 k1, .slice d2 m2 k2, .slice d3 m3 k3, .slice d4 m4 k4] 26)) := ⟨HB1.out.1.trans (hb2.mono HB1.out.1.size), (hb2.block _ (block_lt HB1.out.2.1)).trans HB1.out.2.1, (hb2.block _ (block_lt HB1.out.2.2)).trans HB1.out.2.2⟩
  clear hb2
  have p2 := block_lt HB2.out.2.1
  have q2 := block_lt HB2.out.2.2
  have x2 : w2.cell? ⟨w.heap.size, 12, none⟩ = some (.slice a3 n3 c3) := cell_of_block HB2.out.2.1 rfl
  have y2 : w2.cell? ⟨w.heap.size + 1, 12, none⟩ = some (.slice d3 m3 k3) := cell_of_block HB2.out.2.2 rfl
  go_wp2_with fail
  refine (H3.out w2 HB2.out.1).mono ?_
  rintro e w3 ⟨rfl, hb3⟩
  have HB3 : Hid (Below w.heap.size w w3 ∧ w3.heap[w.heap.size]? = some (.cells #[.int .u16 id, .bool rs, .int .i64 op, .bool aa, .bool tc, .bool rd, .bool ra, .bool ad, .bool cd, .int .i64 rc, .slice a1 n1 c1, .slice a2 n2 c2, .slice a3 n3 c3, .slice a4 n4 c4] 26) ∧ w3.heap[w.heap.size + 1]? = some (.cells #[.int .u16 id, .bool rs, .int .i64 op, .bool aa, .bool tc, .bool rd, .bool ra, .bool ad, .bool cd, .int .i64 rc, .slice d1 m1 k1, .slice d2 m2 k2, .slice d3 m3 k3, .slice d4 m4 k4] 26)) := ⟨HB2.out.1.trans (hb3.mono HB2.out.1.size), (hb3.block _ (block_lt HB2.out.2.1)).trans HB2.out.2.1, (hb3.block _ (block_lt HB2.out.2.2)).trans HB2.out.2.2⟩
  clear hb3
  have p3 := block_lt HB3.out.2.1
  have q3 := block_lt HB3.out.2.2
  have x3 : w3.cell? ⟨w.heap.size, 13, none⟩ = some (.slice a4 n4 c4) := cell_of_block HB3.out.2.1 rfl
  have y3 : w3.cell? ⟨w.heap.size + 1, 13, none⟩ = some (.slice d4 m4 k4) := cell_of_block HB3.out.2.2 rfl
  go_wp2_with fail
  refine (H4.out w3 HB3.out.1).mono ?_
  rintro e w4 ⟨rfl, hb4⟩
  have HB4 : Hid (Below w.heap.size w w4 ∧ w4.heap[w.heap.size]? = some (.cells #[.int .u16 id, .bool rs, .int .i64 op, .bool aa, .bool tc, .bool rd, .bool ra, .bool ad, .bool cd, .int .i64 rc, .slice a1 n1 c1, .slice a2 n2 c2, .slice a3 n3 c3, .slice a4 n4 c4] 26) ∧ w4.heap[w.heap.size + 1]? = some (.cells #[.int .u16 id, .bool rs, .int .i64 op, .bool aa, .bool tc, .bool rd, .bool ra, .bool ad, .bool cd, .int .i64 rc, .slice d1 m1 k1, .slice d2 m2 k2, .slice d3 m3 k3, .slice d4 m4 k4] 26)) := ⟨HB3.out.1.trans (hb4.mono HB3.out.1.size), (hb4.block _ (block_lt HB3.out.2.1)).trans HB3.out.2.1, (hb4.block _ (block_lt HB3.out.2.2)).trans HB3.out.2.2⟩
  clear hb4
  go_wp2
  go_ret
  exact ⟨rfl, HB4.out.1⟩
end Go.Proofs.YtkjnbgekaifdfaaGreat
namespace Go.Proofs.YtkjnbgekaifdfaaGreat
open Go.ChangeShapes Go.WideShapes Go.ChangeAt Go.RowKit
set_option linter.unusedVariables false
set_option linter.unusedSimpArgs false
set_option maxRecDepth 100000 in
set_option maxHeartbeats 2000000 in
theorem samer45 (x y : RA) (r : Rec) (w : World) (h1 : RRd w x r) (h2 : RRd w y r) :
    Calls Tryz.prog 74 #[.agg (recCells x r).toArray, .agg (recCells y r).toArray] w fun e w' => e = .returned (.bool true) ∧ Below w.heap.size w w' := by
  have KD : ∀ W, Below w.heap.size w W → Hid (Calls Tryz.prog 102 #[.agg #[.slice x.d.p1.a x.d.p1.n x.d.p1.c, .slice x.d.p2.a x.d.p2.n x.d.p2.c, .slice x.d.p3.a x.d.p3.n x.d.p3.c, .slice x.d.p4.a x.d.p4.n x.d.p4.c], .agg #[.slice y.d.p1.a y.d.p1.n y.d.p1.c, .slice y.d.p2.a y.d.p2.n y.d.p2.c, .slice y.d.p3.a y.d.p3.n y.d.p3.c, .slice y.d.p4.a y.d.p4.n y.d.p4.c]] W fun e w' => e = .returned (.bool true) ∧ Hid (Below W.heap.size W w')) := fun W hb => samedata_yes x.d y.d r.d W (h1.2.below hb) (h2.2.below hb)
  have hnn : x.o.n = y.o.n := h1.1.len.symm.trans h2.1.len
  have KN : ∀ W, Below w.heap.size w W → Hid (Calls Tryz.prog 101 #[.slice x.o.a x.o.n x.o.c, .slice y.o.a x.o.n y.o.c] W fun e w' => e = .returned (.bool true) ∧ Hid (Below W.heap.size W w')) := fun W hb => sameN_yes x.o.a y.o.a x.o.n x.o.c y.o.c r.ow W (h1.1.rd.below hb) (h2.1.rd.below hb) h1.1.len (Nat.le_trans h1.1.cap.1 h1.1.cap.2)
  clear h1 h2
  obtain ⟨⟨xa, xn, xc⟩, ⟨⟨xa1, xn1, xc1⟩, ⟨xa2, xn2, xc2⟩, ⟨xa3, xn3, xc3⟩, ⟨xa4, xn4, xc4⟩⟩⟩ := x
  obtain ⟨⟨ya, yn, yc⟩, ⟨⟨ya1, yn1, yc1⟩, ⟨ya2, yn2, yc2⟩, ⟨ya3, yn3, yc3⟩, ⟨ya4, yn4, yc4⟩⟩⟩ := y
  obtain ⟨ow, t, cl, tt, d⟩ := r
  simp only at KD KN hnn
  subst hnn
  show Calls Tryz.prog 74 #[.agg #[.slice xa xn xc, .int .u16 (t : Int), .int .u16 (cl : Int), .int .u32 (tt : Int), .slice xa1 xn1 xc1, .slice xa2 xn2 xc2, .slice xa3 xn3 xc3, .slice xa4 xn4 xc4], .agg #[.slice ya xn yc, .int .u16 (t : Int), .int .u16 (cl : Int), .int .u32 (tt : Int), .slice ya1 yn1 yc1, .slice ya2 yn2 yc2, .slice ya3 yn3 yc3, .slice ya4 yn4 yc4]] w fun e w' => e = .returned (.bool true) ∧ Below w.heap.size w w'
  go_enter Tryz.func74, Tryz.ntmps74
  go_wp2_with fail
  refine (KN _ (((Below.refl _ _).alloc (Nat.le_refl _) _).alloc (by simp) _)).out.mono ?_
  rintro e w2 ⟨rfl, hb2'⟩
  have hb2 := hb2'.out
  have HB2 : Hid (Below w.heap.size w w2 ∧ w2.heap[w.heap.size]? = some (.cells #[.slice xa xn xc, .int .u16 (t : Int), .int .u16 (cl : Int), .int .u32 (tt : Int), .slice xa1 xn1 xc1, .slice xa2 xn2 xc2, .slice xa3 xn3 xc3, .slice xa4 xn4 xc4] 62) ∧ w2.heap[w.heap.size + 1]? = some (.cells #[.slice ya xn yc, .int .u16 (t : Int), .int .u16 (cl : Int), .int .u32 (tt : Int), .slice ya1 yn1 yc1, .slice ya2 yn2 yc2, .slice ya3 yn3 yc3, .slice ya4 yn4 yc4] 62)) := by
    refine ⟨(((Below.refl _ _).alloc (Nat.le_refl _) _).alloc (by simp) _).trans (hb2.mono (by simp; omega)), (hb2.block _ (by simp; omega)).trans (block_alloc (alloc_at _ _) _), (hb2.block _ (by simp)).trans ?_⟩
    have := alloc_at (w.alloc (.cells #[.slice xa xn xc, .int .u16 (t : Int), .int .u16 (cl : Int), .int .u32 (tt : Int), .slice xa1 xn1 xc1, .slice xa2 xn2 xc2, .slice xa3 xn3 xc3, .slice xa4 xn4 xc4] 62)) (.cells #[.slice ya xn yc, .int .u16 (t : Int), .int .u16 (cl : Int), .int .u32 (tt : Int), .slice ya1 yn1 yc1, .slice ya2 yn2 yc2, .slice ya3 yn3 yc3, .slice ya4 yn4 yc4] 62)
    simp only [World.size_alloc] at this
    exact this
  clear hb2 hb2' KN
  have p0 := block_lt HB2.out.2.1
  have p1 := block_lt HB2.out.2.2
  have u0 : w2.cell? ⟨w.heap.size, 0, none⟩ = some (.slice xa xn xc) := cell_of_block HB2.out.2.1 rfl
  have u1 : w2.cell? ⟨w.heap.size, 1, none⟩ = some (.int .u16 (t : Int)) := cell_of_block HB2.out.2.1 rfl
  have u2 : w2.cell? ⟨w.heap.size, 2, none⟩ = some (.int .u16 (cl : Int)) := cell_of_block HB2.out.2.1 rfl
  have u3 : w2.cell? ⟨w.heap.size, 3, none⟩ = some (.int .u32 (tt : Int)) := cell_of_block HB2.out.2.1 rfl
  have u4 : w2.cell? ⟨w.heap.size, 4, none⟩ = some (.slice xa1 xn1 xc1) := cell_of_block HB2.out.2.1 rfl
  have u5 : w2.cell? ⟨w.heap.size, 5, none⟩ = some (.slice xa2 xn2 xc2) := cell_of_block HB2.out.2.1 rfl
  have u6 : w2.cell? ⟨w.heap.size, 6, none⟩ = some (.slice xa3 xn3 xc3) := cell_of_block HB2.out.2.1 rfl
  have u7 : w2.cell? ⟨w.heap.size, 7, none⟩ = some (.slice xa4 xn4 xc4) := cell_of_block HB2.out.2.1 rfl
  have v0 : w2.cell? ⟨w.heap.size + 1, 0, none⟩ = some (.slice ya xn yc) := cell_of_block HB2.out.2.2 rfl
  have v1 : w2.cell? ⟨w.heap.size + 1, 1, none⟩ = some (.int .u16 (t : Int)) := cell_of_block HB2.out.2.2 rfl
  have v2 : w2.cell? ⟨w.heap.size + 1, 2, none⟩ = some (.int .u16 (cl : Int)) := cell_of_block HB2.out.2.2 rfl
  have v3 : w2.cell? ⟨w.heap.size + 1, 3, none⟩ = some (.int .u32 (tt : Int)) := cell_of_block HB2.out.2.2 rfl
  have v4 : w2.cell? ⟨w.heap.size + 1, 4, none⟩ = some (.slice ya1 yn1 yc1) := cell_of_block HB2.out.2.2 rfl
  have v5 : w2.cell? ⟨w.heap.size + 1, 5, none⟩ = some (.slice ya2 yn2 yc2) := cell_of_block HB2.out.2.2 rfl
  have v6 : w2.cell? ⟨w.heap.size + 1, 6, none⟩ = some (.slice ya3 yn3 yc3) := cell_of_block HB2.out.2.2 rfl
  have v7 : w2.cell? ⟨w.heap.size + 1, 7, none⟩ = some (.slice ya4 yn4 yc4) := cell_of_block HB2.out.2.2 rfl
  go_wp2_with fail
  refine (KD _ HB2.out.1).out.mono ?_
  rintro e w3 ⟨rfl, hb3⟩
  go_wp2
  go_ret
  exact ⟨rfl, HB2.out.1.trans (hb3.out.mono HB2.out.1.size)⟩
set_option maxRecDepth 100000 in
set_option maxHeartbeats 2000000 in
theorem sames34 (a b : Option Addr) (n c d : Nat) (rs : List Rec) (w : World) (h1 : RdR w a rs) (h2 : RdR w b rs) (hl : rs.length = n) (hn : n ≤ 9223372036854775807) : Sames 46 w (.slice a n c) (.slice b n d) := by
  intro W hW
  have HX : Hid (RdR W a rs) := h1.below hW
  have HY : Hid (RdR W b rs) := h2.below hW
  have HLs : Hid (rs.length = n) := hl
  clear h1 h2 hW hl
  go_enter Tryz.func46, Tryz.ntmps46
  go_wp2_with fail
  go_loopw [5] (fun y wr => ∃ k : Nat, k ≤ n ∧ y = .int .i64 (k : Int) ∧ Hid (Below W.heap.size W wr)) (fun y _ => n - (intOf y).toNat)
  case atStart => exact ⟨0, by omega, rfl, Below.refl _ _⟩
  case round =>
    obtain ⟨k, hk, rfl, HB⟩ := hrel
    by_cases hlt : k < n
    · have hlt' : (k : Int) < (n : Int) := by omega
      have hks : k < rs.length := by rw [HLs.out]; exact hlt
      obtain ⟨b1, o1, rfl, q1, x, rx, ok1⟩ := (HX.out.below HB.out).at k hks
      obtain ⟨b2, o2, rfl, q2, y, ry, ok2⟩ := (HY.out.below HB.out).at k hks
      obtain ⟨r, hr⟩ : ∃ r, r = rs[k] := ⟨_, rfl⟩
      rw [← hr] at rx ry ok1 ok2
      have KL : ∀ V, Below wr.heap.size wr V → Hid (Calls Tryz.prog 74 #[.agg (recCells x r).toArray, .agg (recCells y r).toArray] V fun e w' => e = .returned (.bool true) ∧ Below V.heap.size V w') := fun V hb => samer45 x y r V (ok1.below hb) (ok2.below hb)
      clear hr ok1 ok2
      obtain ⟨⟨xa, xn, xc⟩, ⟨⟨xa1, xn1, xc1⟩, ⟨xa2, xn2, xc2⟩, ⟨xa3, xn3, xc3⟩, ⟨xa4, xn4, xc4⟩⟩⟩ := x
      obtain ⟨⟨ya, yn, yc⟩, ⟨⟨ya1, yn1, yc1⟩, ⟨ya2, yn2, yc2⟩, ⟨ya3, yn3, yc3⟩, ⟨ya4, yn4, yc4⟩⟩⟩ := y
      obtain ⟨ow, t, cl, tt, dd⟩ := r
      have KL' : ∀ V, Below wr.heap.size wr V → Hid (Calls Tryz.prog 74 #[.agg #[.slice xa xn xc, .int .u16 (t : Int), .int .u16 (cl : Int), .int .u32 (tt : Int), .slice xa1 xn1 xc1, .slice xa2 xn2 xc2, .slice xa3 xn3 xc3, .slice xa4 xn4 xc4], .agg #[.slice ya yn yc, .int .u16 (t : Int), .int .u16 (cl : Int), .int .u32 (tt : Int), .slice ya1 yn1 yc1, .slice ya2 yn2 yc2, .slice ya3 yn3 yc3, .slice ya4 yn4 yc4]] V fun e w' => e = .returned (.bool true) ∧ Below V.heap.size V w') := KL
      have KS : ∀ V, Below wr.heap.size wr V → V.cell? ⟨b1, o1 + k * 8, none⟩ = some (.slice xa xn xc) ∧ V.cell? ⟨b1, o1 + k * 8 + 1, none⟩ = some (.int .u16 (t : Int)) ∧ V.cell? ⟨b1, o1 + k * 8 + 2, none⟩ = some (.int .u16 (cl : Int)) ∧ V.cell? ⟨b1, o1 + k * 8 + 3, none⟩ = some (.int .u32 (tt : Int)) ∧ V.cell? ⟨b1, o1 + k * 8 + 4, none⟩ = some (.slice xa1 xn1 xc1) ∧ V.cell? ⟨b1, o1 + k * 8 + 5, none⟩ = some (.slice xa2 xn2 xc2) ∧ V.cell? ⟨b1, o1 + k * 8 + 6, none⟩ = some (.slice xa3 xn3 xc3) ∧ V.cell? ⟨b1, o1 + k * 8 + 7, none⟩ = some (.slice xa4 xn4 xc4) ∧ V.cell? ⟨b2, o2 + k * 8, none⟩ = some (.slice ya yn yc) ∧ V.cell? ⟨b2, o2 + k * 8 + 1, none⟩ = some (.int .u16 (t : Int)) ∧ V.cell? ⟨b2, o2 + k * 8 + 2, none⟩ = some (.int .u16 (cl : Int)) ∧ V.cell? ⟨b2, o2 + k * 8 + 3, none⟩ = some (.int .u32 (tt : Int)) ∧ V.cell? ⟨b2, o2 + k * 8 + 4, none⟩ = some (.slice ya1 yn1 yc1) ∧ V.cell? ⟨b2, o2 + k * 8 + 5, none⟩ = some (.slice ya2 yn2 yc2) ∧ V.cell? ⟨b2, o2 + k * 8 + 6, none⟩ = some (.slice ya3 yn3 yc3) ∧ V.cell? ⟨b2, o2 + k * 8 + 7, none⟩ = some (.slice ya4 yn4 yc4) := fun V hb => ⟨(hb.cell (p := ⟨_, _, none⟩) q1).trans (rx 0 (by omega)), (hb.cell (p := ⟨_, _, none⟩) q1).trans (rx 1 (by omega)), (hb.cell (p := ⟨_, _, none⟩) q1).trans (rx 2 (by omega)), (hb.cell (p := ⟨_, _, none⟩) q1).trans (rx 3 (by omega)), (hb.cell (p := ⟨_, _, none⟩) q1).trans (rx 4 (by omega)), (hb.cell (p := ⟨_, _, none⟩) q1).trans (rx 5 (by omega)), (hb.cell (p := ⟨_, _, none⟩) q1).trans (rx 6 (by omega)), (hb.cell (p := ⟨_, _, none⟩) q1).trans (rx 7 (by omega)), (hb.cell (p := ⟨_, _, none⟩) q2).trans (ry 0 (by omega)), (hb.cell (p := ⟨_, _, none⟩) q2).trans (ry 1 (by omega)), (hb.cell (p := ⟨_, _, none⟩) q2).trans (ry 2 (by omega)), (hb.cell (p := ⟨_, _, none⟩) q2).trans (ry 3 (by omega)), (hb.cell (p := ⟨_, _, none⟩) q2).trans (ry 4 (by omega)), (hb.cell (p := ⟨_, _, none⟩) q2).trans (ry 5 (by omega)), (hb.cell (p := ⟨_, _, none⟩) q2).trans (ry 6 (by omega)), (hb.cell (p := ⟨_, _, none⟩) q2).trans (ry 7 (by omega))⟩
      clear KL rx ry
      go_wp2_with fail
      go_region_held3 (fun V => V.cell? ⟨b1, o1 + k * 8, none⟩ = some (.slice xa xn xc) ∧ V.cell? ⟨b1, o1 + k * 8 + 1, none⟩ = some (.int .u16 (t : Int)) ∧ V.cell? ⟨b1, o1 + k * 8 + 2, none⟩ = some (.int .u16 (cl : Int)) ∧ V.cell? ⟨b1, o1 + k * 8 + 3, none⟩ = some (.int .u32 (tt : Int)) ∧ V.cell? ⟨b1, o1 + k * 8 + 4, none⟩ = some (.slice xa1 xn1 xc1) ∧ V.cell? ⟨b1, o1 + k * 8 + 5, none⟩ = some (.slice xa2 xn2 xc2) ∧ V.cell? ⟨b1, o1 + k * 8 + 6, none⟩ = some (.slice xa3 xn3 xc3) ∧ V.cell? ⟨b1, o1 + k * 8 + 7, none⟩ = some (.slice xa4 xn4 xc4) ∧ V.cell? ⟨b2, o2 + k * 8, none⟩ = some (.slice ya yn yc) ∧ V.cell? ⟨b2, o2 + k * 8 + 1, none⟩ = some (.int .u16 (t : Int)) ∧ V.cell? ⟨b2, o2 + k * 8 + 2, none⟩ = some (.int .u16 (cl : Int)) ∧ V.cell? ⟨b2, o2 + k * 8 + 3, none⟩ = some (.int .u32 (tt : Int)) ∧ V.cell? ⟨b2, o2 + k * 8 + 4, none⟩ = some (.slice ya1 yn1 yc1) ∧ V.cell? ⟨b2, o2 + k * 8 + 5, none⟩ = some (.slice ya2 yn2 yc2) ∧ V.cell? ⟨b2, o2 + k * 8 + 6, none⟩ = some (.slice ya3 yn3 yc3) ∧ V.cell? ⟨b2, o2 + k * 8 + 7, none⟩ = some (.slice ya4 yn4 yc4)) (first | exact KS _ HBw8.out | exact KS _ (Below.refl wr.heap.size wr).drew | exact KS _ (Below.refl wr.heap.size wr) | exact KS _ HBw8.out.drew) (first
        | (go_at_call 74; refine Calls.mono (KL' _ ?hb).out ?_; (case hb => first | exact (Below.refl wr.heap.size wr).drew | exact Below.refl wr.heap.size wr); rintro e w8 ⟨rfl, Hw8⟩; have HBw8 : Hid (Below wr.heap.size wr w8) := by first | exact (Below.refl wr.heap.size wr).drew.trans Hw8 | exact Hw8)
        | fail)
      all_goals go_wp2
      all_goals exact ⟨⟨k + 1, by omega, by go_num, HB.out.trans (HBw8.out.mono HB.out.size)⟩, by simp [intOf]; omega⟩
    · obtain rfl : k = n := by omega
      go_wp2
      go_ret
      exact ⟨rfl, HB.out⟩
end Go.Proofs.YtkjnbgekaifdfaaGreat
namespace Go.Proofs.YtkjnbgekaifdfaaGreat
open Go.ChangeShapes Go.WideShapes Go.ChangeAt Go.RowKit
set_option linter.unusedVariables false
set_option linter.unusedSimpArgs false
set_option maxRecDepth 100000 in
set_option maxHeartbeats 1000000 in
theorem sameq44 (x y : QA) (q : Qn) (w : World) (h1 : QOk w x q) (h2 : QOk w y q) :
    Calls Tryz.prog 73 #[.agg #[.slice x.s.a x.s.n x.s.c, .int .u16 (x.ty : Int), .int .u16 (x.cl : Int)], .agg #[.slice y.s.a y.s.n y.s.c, .int .u16 (y.ty : Int), .int .u16 (y.cl : Int)]] w fun e w' => e = .returned (.bool true) ∧ Below w.heap.size w w' := by
  obtain ⟨⟨a1, n1, c1⟩, t1, l1⟩ := x
  obtain ⟨⟨a2, n2, c2⟩, t2, l2⟩ := y
  obtain ⟨hr1, e1, e2, b1, b2⟩ := h1
  obtain ⟨hr2, e3, e4, b3, b4⟩ := h2
  simp only at *
  subst e1 e2
  rw [e3, e4]
  obtain rfl : n1 = n2 := hr1.len.symm.trans hr2.len
  have KN : ∀ W, Below w.heap.size w W → Hid (Calls Tryz.prog 101 #[.slice a1 n1 c1, .slice a2 n1 c2] W fun e w' => e = .returned (.bool true) ∧ Below W.heap.size W w') := fun W hb => Calls.mono (sameN_yes a1 a2 n1 c1 c2 q.nm W (hr1.rd.below hb) (hr2.rd.below hb) hr1.len (Nat.le_trans hr1.cap.1 hr1.cap.2)) (by
    rintro e w' h
    exact h)
  clear hr1 hr2 e3 e4
  go_enter Tryz.func73, Tryz.ntmps73
  go_wp2_with fail
  refine (KN _ (((Below.refl _ _).alloc (Nat.le_refl _) _).alloc (by simp) _)).out.mono ?_
  rintro e w2 ⟨rfl, hb2⟩
  have HB2 : Hid (Below w.heap.size w w2 ∧ w2.heap[w.heap.size]? = some (.cells #[.slice a1 n1 c1, .int .u16 (q.ty : Int), .int .u16 (q.cl : Int)] 55) ∧ w2.heap[w.heap.size + 1]? = some (.cells #[.slice a2 n1 c2, .int .u16 (q.ty : Int), .int .u16 (q.cl : Int)] 55)) := by
    refine ⟨(((Below.refl _ _).alloc (Nat.le_refl _) _).alloc (by simp) _).trans (hb2.mono (by simp; omega)), (hb2.block _ (by simp; omega)).trans (block_alloc (alloc_at _ _) _), (hb2.block _ (by simp)).trans ?_⟩
    have := alloc_at (w.alloc (.cells #[.slice a1 n1 c1, .int .u16 (q.ty : Int), .int .u16 (q.cl : Int)] 55)) (.cells #[.slice a2 n1 c2, .int .u16 (q.ty : Int), .int .u16 (q.cl : Int)] 55)
    simp only [World.size_alloc] at this
    exact this
  clear hb2 KN
  have p0 := block_lt HB2.out.2.1
  have p1 := block_lt HB2.out.2.2
  have x1 : w2.cell? ⟨w.heap.size, 1, none⟩ = some (.int .u16 (q.ty : Int)) := cell_of_block HB2.out.2.1 rfl
  have x2 : w2.cell? ⟨w.heap.size, 2, none⟩ = some (.int .u16 (q.cl : Int)) := cell_of_block HB2.out.2.1 rfl
  have y1 : w2.cell? ⟨w.heap.size + 1, 1, none⟩ = some (.int .u16 (q.ty : Int)) := cell_of_block HB2.out.2.2 rfl
  have y2 : w2.cell? ⟨w.heap.size + 1, 2, none⟩ = some (.int .u16 (q.cl : Int)) := cell_of_block HB2.out.2.2 rfl
  go_wp2
  go_ret
  exact ⟨rfl, HB2.out.1⟩
set_option maxRecDepth 100000 in
set_option maxHeartbeats 2000000 in
theorem sames33 (x y : Sl) (qs : List Qn) (w : World) (h1 : QsRd w x qs) (h2 : QsRd w y qs) : Sames 45 w (.slice x.a x.n x.c) (.slice y.a y.n y.c) := by
  intro W hW
  have HX : Hid (QsRd W x qs) := h1.below hW
  have HY : Hid (QsRd W y qs) := h2.below hW
  obtain ⟨a, n, c⟩ := x
  obtain ⟨b, m, d⟩ := y
  obtain rfl : n = m := h1.len.symm.trans h2.len
  have HLs : Hid (qs.length = n) := h1.len
  have hn : n ≤ 9223372036854775807 := Nat.le_trans h1.cap.1 h1.cap.2
  clear h1 h2 hW
  simp only
  go_enter Tryz.func45, Tryz.ntmps45
  go_wp2_with fail
  go_loopw [5] (fun y wr => ∃ k : Nat, k ≤ n ∧ y = .int .i64 (k : Int) ∧ Hid (Below W.heap.size W wr)) (fun y _ => n - (intOf y).toNat)
  case atStart => exact ⟨0, by omega, rfl, Below.refl _ _⟩
  case round =>
    obtain ⟨k, hk, rfl, HB⟩ := hrel
    by_cases hlt : k < n
    · have hlt' : (k : Int) < (n : Int) := by omega
      have hks : k < qs.length := by rw [HLs.out]; exact hlt
      obtain ⟨b1, o1, e1, q1, x1, r1, r2, r3, ok1⟩ := (HX.out.below HB.out).at k hks
      obtain ⟨b2, o2, e2, q2, x2, r4, r5, r6, ok2⟩ := (HY.out.below HB.out).at k hks
      simp only at e1 e2
      subst e1 e2
      have KL : ∀ V, Below wr.heap.size wr V → Hid (Calls Tryz.prog 73 #[.agg #[.slice x1.s.a x1.s.n x1.s.c, .int .u16 (x1.ty : Int), .int .u16 (x1.cl : Int)], .agg #[.slice x2.s.a x2.s.n x2.s.c, .int .u16 (x2.ty : Int), .int .u16 (x2.cl : Int)]] V fun e w' => e = .returned (.bool true) ∧ Below V.heap.size V w') := fun V hb => sameq44 x1 x2 _ V (ok1.below hb) (ok2.below hb)
      obtain ⟨⟨a1, n1, c1⟩, t1, l1⟩ := x1
      obtain ⟨⟨a2, n2, c2⟩, t2, l2⟩ := x2
      simp only at KL r1 r2 r3 r4 r5 r6
      clear ok1 ok2
      have KS : ∀ V, Below wr.heap.size wr V → V.cell? ⟨b1, o1 + k * 3, none⟩ = some (.slice a1 n1 c1) ∧ V.cell? ⟨b1, o1 + k * 3 + 1, none⟩ = some (.int .u16 (t1 : Int)) ∧ V.cell? ⟨b1, o1 + k * 3 + 2, none⟩ = some (.int .u16 (l1 : Int)) ∧ V.cell? ⟨b2, o2 + k * 3, none⟩ = some (.slice a2 n2 c2) ∧ V.cell? ⟨b2, o2 + k * 3 + 1, none⟩ = some (.int .u16 (t2 : Int)) ∧ V.cell? ⟨b2, o2 + k * 3 + 2, none⟩ = some (.int .u16 (l2 : Int)) := fun V hb => ⟨(hb.cell (p := ⟨_, _, none⟩) q1).trans r1, (hb.cell (p := ⟨_, _, none⟩) q1).trans r2, (hb.cell (p := ⟨_, _, none⟩) q1).trans r3, (hb.cell (p := ⟨_, _, none⟩) q2).trans r4, (hb.cell (p := ⟨_, _, none⟩) q2).trans r5, (hb.cell (p := ⟨_, _, none⟩) q2).trans r6⟩
      go_wp2_with fail
      go_region_held3 (fun V => V.cell? ⟨b1, o1 + k * 3, none⟩ = some (.slice a1 n1 c1) ∧ V.cell? ⟨b1, o1 + k * 3 + 1, none⟩ = some (.int .u16 (t1 : Int)) ∧ V.cell? ⟨b1, o1 + k * 3 + 2, none⟩ = some (.int .u16 (l1 : Int)) ∧ V.cell? ⟨b2, o2 + k * 3, none⟩ = some (.slice a2 n2 c2) ∧ V.cell? ⟨b2, o2 + k * 3 + 1, none⟩ = some (.int .u16 (t2 : Int)) ∧ V.cell? ⟨b2, o2 + k * 3 + 2, none⟩ = some (.int .u16 (l2 : Int))) (first | exact KS _ HBw8.out | exact KS _ (Below.refl wr.heap.size wr).drew | exact KS _ (Below.refl wr.heap.size wr) | exact KS _ HBw8.out.drew) (first
        | (go_at_call 73; refine Calls.mono (KL _ ?hb).out ?_; (case hb => first | exact (Below.refl wr.heap.size wr).drew | exact Below.refl wr.heap.size wr); rintro e w8 ⟨rfl, Hw8⟩; have HBw8 : Hid (Below wr.heap.size wr w8) := by first | exact (Below.refl wr.heap.size wr).drew.trans Hw8 | exact Hw8)
        | fail)
      all_goals go_wp2
      all_goals exact ⟨⟨k + 1, by omega, by go_num, HB.out.trans (HBw8.out.mono HB.out.size)⟩, by simp [intOf]; omega⟩
    · obtain rfl : k = n := by omega
      go_wp2
      go_ret
      exact ⟨rfl, HB.out⟩
end Go.Proofs.YtkjnbgekaifdfaaGreat
namespace Go.Proofs.YtkjnbgekaifdfaaGreat
open Go.ChangeShapes Go.WideShapes Go.ChangeAt Go.RowKit Go.Maps
set_option linter.unusedVariables false
set_option linter.unusedSimpArgs false
theorem same_msg (H : Hd) (x y : MA) (m : Mg) (w : World) (h1 : MRd w H x m) (h2 : MRd w H y m) :
    Calls Tryz.prog 20 #[.agg #[.int .u16 H.id, .bool H.rs, .int .i64 H.op, .bool H.aa, .bool H.tc, .bool H.rd, .bool H.ra, .bool H.ad, .bool H.cd, .int .i64 H.rc, .slice x.q.a x.q.n x.q.c, .slice x.l1.a x.l1.n x.l1.c, .slice x.l2.a x.l2.n x.l2.c, .slice x.l3.a x.l3.n x.l3.c], .agg #[.int .u16 H.id, .bool H.rs, .int .i64 H.op, .bool H.aa, .bool H.tc, .bool H.rd, .bool H.ra, .bool H.ad, .bool H.cd, .int .i64 H.rc, .slice y.q.a y.q.n y.q.c, .slice y.l1.a y.l1.n y.l1.c, .slice y.l2.a y.l2.n y.l2.c, .slice y.l3.a y.l3.n y.l3.c]] w fun e w' => e = .returned (.bool true) ∧ Hid (Below w.heap.size w w') := by
  have l1 : Sames 46 w (.slice x.l1.a x.l1.n x.l1.c) (.slice y.l1.a y.l1.n y.l1.c) := by
    have := sames34 x.l1.a y.l1.a x.l1.n x.l1.c y.l1.c m.l1 w h1.l1.rd h2.l1.rd h1.l1.len (by have := h1.l1.cap; omega)
    rw [show y.l1.n = x.l1.n from h2.l1.len.symm.trans h1.l1.len]
    exact this
  have l2 : Sames 46 w (.slice x.l2.a x.l2.n x.l2.c) (.slice y.l2.a y.l2.n y.l2.c) := by
    have := sames34 x.l2.a y.l2.a x.l2.n x.l2.c y.l2.c m.l2 w h1.l2.rd h2.l2.rd h1.l2.len (by have := h1.l2.cap; omega)
    rw [show y.l2.n = x.l2.n from h2.l2.len.symm.trans h1.l2.len]
    exact this
  have l3 : Sames 46 w (.slice x.l3.a x.l3.n x.l3.c) (.slice y.l3.a y.l3.n y.l3.c) := by
    have := sames34 x.l3.a y.l3.a x.l3.n x.l3.c y.l3.c m.l3 w h1.l3.rd h2.l3.rd h1.l3.len (by have := h1.l3.cap; omega)
    rw [show y.l3.n = x.l3.n from h2.l3.len.symm.trans h1.l3.len]
    exact this
  refine (sameM H.id H.rs H.op H.aa H.tc H.rd H.ra H.ad H.cd H.rc x.q.a x.l1.a x.l2.a x.l3.a y.q.a y.l1.a y.l2.a y.l3.a x.q.n x.l1.n x.l2.n x.l3.n x.q.c x.l1.c x.l2.c x.l3.c y.q.n y.l1.n y.l2.n y.l3.n y.q.c y.l1.c y.l2.c y.l3.c w (sames33 x.q y.q m.qs w h1.q h2.q) l1 l2 l3).mono ?_
  rintro e w' ⟨e1, e2⟩
  exact ⟨e1, e2⟩
end Go.Proofs.YtkjnbgekaifdfaaGreat
namespace Go.Proofs.YtkjnbgekaifdfaaGreat
open Go.ChangeShapes Go.WideShapes Go.ChangeAt Go.RowKit
set_option linter.unusedVariables false
theorem thr84 : cutE thrM 84 = 0 ∧ (prun (pmsg (cutF thrM 84)) (some ([], []))).map (·.1.length) = some 84 := by decide +kernel
theorem thr84m : cutF thrM 84 = thrM := by
  have h : fitsF thrM 84 = true := by decide +kernel
  unfold cutF
  rw [if_pos h]
theorem thr83 : cutE thrM 83 = 0 ∧ (cutF thrM 83).l3.length = 0 ∧ (cutF thrM 83).h.tc = false := by decide +kernel
theorem thr66b : cutE thrM 66 = 0 ∧ (cutF thrM 66).l1.length = 2 ∧ (cutF thrM 66).l2.length = 0 ∧ (cutF thrM 66).h.tc = true := by decide +kernel
theorem thr51 : cutE thrM 51 = 0 := by decide +kernel
theorem cut_same {a b : Int} (h1 : fitsF thrM a = false) (h2 : fitsF thrM b = false) (h : fitN thrM a 0 (setsF thrM) = fitN thrM b 0 (setsF thrM)) : cutF thrM a = cutF thrM b := by
  unfold cutF
  rw [if_neg (by simp [h1]), if_neg (by simp [h2]), h]
theorem thr51m : cutF thrM 51 = cutF thrM 66 := cut_same (by decide +kernel) (by decide +kernel) (by decide +kernel)
theorem thr50 : cutE thrM 50 = 0 ∧ (cutF thrM 50).l1.length = 0 ∧ (cutF thrM 50).h.tc = true := by decide +kernel
theorem thr19 : cutE thrM 19 = 0 := by decide +kernel
theorem thr19m : cutF thrM 19 = cutF thrM 50 := cut_same (by decide +kernel) (by decide +kernel) (by decide +kernel)
theorem thr18 : cutE thrM 18 = 3 := by decide +kernel
end Go.Proofs.YtkjnbgekaifdfaaGreat
namespace Go.Proofs.YtkjnbgekaifdfaaGreat
open Go.ChangeShapes Go.WideShapes Go.ChangeAt Go.RowKit
set_option linter.unusedVariables false
set_option linter.unusedSimpArgs false
set_option maxRecDepth 100000 in
set_option maxHeartbeats 16000000 in
theorem known6 (w : World) : Calls Tryz.prog 6 #[] w fun e w' => e = .returned (.bool true) ∧ Hid (Below w.heap.size w w') := by
  obtain ⟨H0, hH0⟩ : ∃ H, H = thrH := ⟨_, rfl⟩
  obtain ⟨M, hM⟩ : ∃ M, M = thrM := ⟨_, rfl⟩
  have HMh : Hid (M.h = H0) := by show _ = _; rw [hM, hH0]; rfl
  have HFi : Hid (Fin M) := by
    have h : ChkOk M := by rw [hM]; exact chkM_zero.1 thr_chk
    exact h.fin
  have t84 := Lib.hid thr84
  have t84m := Lib.hid thr84m
  have t83 := Lib.hid thr83
  have t66 := Lib.hid thr66b
  have t51 := Lib.hid thr51
  have t51m := Lib.hid thr51m
  have t50 := Lib.hid thr50
  have t19 := Lib.hid thr19
  have t19m := Lib.hid thr19m
  have t18 := Lib.hid thr18
  rw [← hM] at t84 t84m t83 t66 t51 t51m t50 t19 t19m t18
  have K26 := fun W => Lib.hid (three_l H0 M hH0 hM W)
  have K14 := fun W => Lib.hid (awake14 W)
  have K16 := fun x z W (h : MRd W H0 x M) => Lib.hid (cut16 H0 x M z W h HFi.out)
  clear hH0 hM
  obtain ⟨Hc, hHc⟩ : ∃ z, z = (cutF M 66).h := ⟨_, rfl⟩
  obtain ⟨Hn, hHn⟩ : ∃ z, z = (cutF M 50).h := ⟨_, rfl⟩
  have HHc := Lib.hid hHc
  have HHn := Lib.hid hHn
  clear hHc hHn
  go_enter Tryz.func6, Tryz.ntmps6
  go_wp2_with fail
  refine (K26 _).out.mono ?_
  rintro e w1 ⟨x1, rfl, H1⟩
  have K17 := Lib.hid (bytes17 H0 x1 M 84 w1 H1.out.1 HFi.out)
  have HBL := Lib.hid H1.out.2
  clear H1
  go_wp2_with fail
  refine K17.out.mono ?_
  rintro e w2 ⟨⟨sa, sn, sc⟩, er, rfl, H2⟩
  have hR := H2.out.1
  unfold BtR at hR
  rw [if_pos t84.out.1] at hR
  have h84 := t84.out.2
  obtain ⟨z, hz⟩ : ∃ z, prun (pmsg (cutF M 84)) (some ([], [])) = some z := by
    cases hz : prun (pmsg (cutF M 84)) (some ([], [])) with
    | none => rw [hz] at h84; cases h84
    | some z => exact ⟨z, rfl⟩
  rw [hz] at h84 hR
  obtain ⟨rfl, hS⟩ := hR
  have hsn : sn = 84 := by
    have h1 := hS.len
    simp only [Option.map_some, Option.some.injEq] at h84 h1
    rw [h84] at h1
    exact h1.symm
  subst hsn
  have HB : Hid (Below w.heap.size w w2) := HBL.out.trans (H2.out.2.mono HBL.out.size)
  clear hz h84 hS H2 K17 HBL
  go_wp2_with fail
  refine (K26 _).out.mono ?_
  rintro e va ⟨xa, rfl, H3⟩
  have HMM : Hid (MRd va H0 xa M) := H3.out.1
  replace HB : Hid (Below w.heap.size w va) := HB.out.trans (H3.out.2.mono HB.out.size)
  clear H3
  go_wp2_with fail
  refine (K16 _ 84 _ HMM.out).out.mono ?_
  rintro e ua ⟨G, Ya, rfl, H4⟩
  rw [t84.out.1]
  have hG : H0 = G := (by have h := (H4.out.1 t84.out.1).h; rw [t84m.out, HMh.out] at h; exact h)
  subst hG
  have hN := newF_below ua (.cells #[.int .u16 H0.id, .bool H0.rs, .int .i64 H0.op, .bool H0.aa, .bool H0.tc, .bool H0.rd, .bool H0.ra, .bool H0.ad, .bool H0.cd, .int .i64 H0.rc, .slice Ya.q.a Ya.q.n Ya.q.c, .slice Ya.l1.a Ya.l1.n Ya.l1.c, .slice Ya.l2.a Ya.l2.n Ya.l2.c, .slice Ya.l3.a Ya.l3.n Ya.l3.c] 26)
  have hBN : Below va.heap.size va (ua.alloc (.cells #[.int .u16 H0.id, .bool H0.rs, .int .i64 H0.op, .bool H0.aa, .bool H0.tc, .bool H0.rd, .bool H0.ra, .bool H0.ad, .bool H0.cd, .int .i64 H0.rc, .slice Ya.q.a Ya.q.n Ya.q.c, .slice Ya.l1.a Ya.l1.n Ya.l1.c, .slice Ya.l2.a Ya.l2.n Ya.l2.c, .slice Ya.l3.a Ya.l3.n Ya.l3.c] 26)) := H4.out.2.trans (hN.mono H4.out.2.size)
  have HXa : Hid ((ua.alloc (.cells #[.int .u16 H0.id, .bool H0.rs, .int .i64 H0.op, .bool H0.aa, .bool H0.tc, .bool H0.rd, .bool H0.ra, .bool H0.ad, .bool H0.cd, .int .i64 H0.rc, .slice Ya.q.a Ya.q.n Ya.q.c, .slice Ya.l1.a Ya.l1.n Ya.l1.c, .slice Ya.l2.a Ya.l2.n Ya.l2.c, .slice Ya.l3.a Ya.l3.n Ya.l3.c] 26)).heap[ua.heap.size]? = some (.cells #[.int .u16 H0.id, .bool H0.rs, .int .i64 H0.op, .bool H0.aa, .bool H0.tc, .bool H0.rd, .bool H0.ra, .bool H0.ad, .bool H0.cd, .int .i64 H0.rc, .slice Ya.q.a Ya.q.n Ya.q.c, .slice Ya.l1.a Ya.l1.n Ya.l1.c, .slice Ya.l2.a Ya.l2.n Ya.l2.c, .slice Ya.l3.a Ya.l3.n Ya.l3.c] 26)) := heap_alloc_new _ _
  replace HB : Hid (Below w.heap.size w (ua.alloc (.cells #[.int .u16 H0.id, .bool H0.rs, .int .i64 H0.op, .bool H0.aa, .bool H0.tc, .bool H0.rd, .bool H0.ra, .bool H0.ad, .bool H0.cd, .int .i64 H0.rc, .slice Ya.q.a Ya.q.n Ya.q.c, .slice Ya.l1.a Ya.l1.n Ya.l1.c, .slice Ya.l2.a Ya.l2.n Ya.l2.c, .slice Ya.l3.a Ya.l3.n Ya.l3.c] 26))) := HB.out.trans (hBN.mono HB.out.size)
  have HMa : Hid (MRd (ua.alloc (.cells #[.int .u16 H0.id, .bool H0.rs, .int .i64 H0.op, .bool H0.aa, .bool H0.tc, .bool H0.rd, .bool H0.ra, .bool H0.ad, .bool H0.cd, .int .i64 H0.rc, .slice Ya.q.a Ya.q.n Ya.q.c, .slice Ya.l1.a Ya.l1.n Ya.l1.c, .slice Ya.l2.a Ya.l2.n Ya.l2.c, .slice Ya.l3.a Ya.l3.n Ya.l3.c] 26)) H0 Ya M) := by show MRd _ _ _ _; have h := (H4.out.1 t84.out.1).below hN; rw [t84m.out] at h; exact h
  clear H4 hN hBN HMM
  go_upto_region 3 with (fail)
  generalize ua.alloc (.cells #[.int .u16 H0.id, .bool H0.rs, .int .i64 H0.op, .bool H0.aa, .bool H0.tc, .bool H0.rd, .bool H0.ra, .bool H0.ad, .bool H0.cd, .int .i64 H0.rc, .slice Ya.q.a Ya.q.n Ya.q.c, .slice Ya.l1.a Ya.l1.n Ya.l1.c, .slice Ya.l2.a Ya.l2.n Ya.l2.c, .slice Ya.l3.a Ya.l3.n Ya.l3.c] 26) = Wa at *
  obtain ⟨pa, hp⟩ : ∃ z, z = ua.heap.size := ⟨_, rfl⟩
  rw [← hp] at HXa
  simp only [← hp]
  clear hp
  go_wp2_with fail
  refine (K26 _).out.mono ?_
  rintro e vb ⟨xb, rfl, H3⟩
  replace HXa : Hid (vb.heap[pa]? = some (.cells #[.int .u16 H0.id, .bool H0.rs, .int .i64 H0.op, .bool H0.aa, .bool H0.tc, .bool H0.rd, .bool H0.ra, .bool H0.ad, .bool H0.cd, .int .i64 H0.rc, .slice Ya.q.a Ya.q.n Ya.q.c, .slice Ya.l1.a Ya.l1.n Ya.l1.c, .slice Ya.l2.a Ya.l2.n Ya.l2.c, .slice Ya.l3.a Ya.l3.n Ya.l3.c] 26)) := ((H3.out.2).block _ (box_lt HXa.out)).trans HXa.out
  have HMM : Hid (MRd vb H0 xb M) := H3.out.1
  replace HB : Hid (Below w.heap.size w vb) := HB.out.trans (H3.out.2.mono HB.out.size)
  replace HMa := Lib.hid (HMa.out.below H3.out.2)
  clear H3
  go_wp2_with fail
  refine (K16 _ 83 _ HMM.out).out.mono ?_
  rintro e ub ⟨G, Yb, rfl, H4⟩
  rw [t83.out.1]
  obtain ⟨Gb, hGb⟩ : ∃ z, z = G := ⟨_, rfl⟩
  rw [← hGb] at H4 ⊢
  clear hGb
  have hN := newF_below ub (.cells #[.int .u16 Gb.id, .bool Gb.rs, .int .i64 Gb.op, .bool Gb.aa, .bool Gb.tc, .bool Gb.rd, .bool Gb.ra, .bool Gb.ad, .bool Gb.cd, .int .i64 Gb.rc, .slice Yb.q.a Yb.q.n Yb.q.c, .slice Yb.l1.a Yb.l1.n Yb.l1.c, .slice Yb.l2.a Yb.l2.n Yb.l2.c, .slice Yb.l3.a Yb.l3.n Yb.l3.c] 26)
  have hBN : Below vb.heap.size vb (ub.alloc (.cells #[.int .u16 Gb.id, .bool Gb.rs, .int .i64 Gb.op, .bool Gb.aa, .bool Gb.tc, .bool Gb.rd, .bool Gb.ra, .bool Gb.ad, .bool Gb.cd, .int .i64 Gb.rc, .slice Yb.q.a Yb.q.n Yb.q.c, .slice Yb.l1.a Yb.l1.n Yb.l1.c, .slice Yb.l2.a Yb.l2.n Yb.l2.c, .slice Yb.l3.a Yb.l3.n Yb.l3.c] 26)) := H4.out.2.trans (hN.mono H4.out.2.size)
  replace HXa : Hid ((ub.alloc (.cells #[.int .u16 Gb.id, .bool Gb.rs, .int .i64 Gb.op, .bool Gb.aa, .bool Gb.tc, .bool Gb.rd, .bool Gb.ra, .bool Gb.ad, .bool Gb.cd, .int .i64 Gb.rc, .slice Yb.q.a Yb.q.n Yb.q.c, .slice Yb.l1.a Yb.l1.n Yb.l1.c, .slice Yb.l2.a Yb.l2.n Yb.l2.c, .slice Yb.l3.a Yb.l3.n Yb.l3.c] 26)).heap[pa]? = some (.cells #[.int .u16 H0.id, .bool H0.rs, .int .i64 H0.op, .bool H0.aa, .bool H0.tc, .bool H0.rd, .bool H0.ra, .bool H0.ad, .bool H0.cd, .int .i64 H0.rc, .slice Ya.q.a Ya.q.n Ya.q.c, .slice Ya.l1.a Ya.l1.n Ya.l1.c, .slice Ya.l2.a Ya.l2.n Ya.l2.c, .slice Ya.l3.a Ya.l3.n Ya.l3.c] 26)) := ((hBN).block _ (box_lt HXa.out)).trans HXa.out
  replace HMa := Lib.hid (HMa.out.below hBN)
  have HXb : Hid ((ub.alloc (.cells #[.int .u16 Gb.id, .bool Gb.rs, .int .i64 Gb.op, .bool Gb.aa, .bool Gb.tc, .bool Gb.rd, .bool Gb.ra, .bool Gb.ad, .bool Gb.cd, .int .i64 Gb.rc, .slice Yb.q.a Yb.q.n Yb.q.c, .slice Yb.l1.a Yb.l1.n Yb.l1.c, .slice Yb.l2.a Yb.l2.n Yb.l2.c, .slice Yb.l3.a Yb.l3.n Yb.l3.c] 26)).heap[ub.heap.size]? = some (.cells #[.int .u16 Gb.id, .bool Gb.rs, .int .i64 Gb.op, .bool Gb.aa, .bool Gb.tc, .bool Gb.rd, .bool Gb.ra, .bool Gb.ad, .bool Gb.cd, .int .i64 Gb.rc, .slice Yb.q.a Yb.q.n Yb.q.c, .slice Yb.l1.a Yb.l1.n Yb.l1.c, .slice Yb.l2.a Yb.l2.n Yb.l2.c, .slice Yb.l3.a Yb.l3.n Yb.l3.c] 26)) := heap_alloc_new _ _
  replace HB : Hid (Below w.heap.size w (ub.alloc (.cells #[.int .u16 Gb.id, .bool Gb.rs, .int .i64 Gb.op, .bool Gb.aa, .bool Gb.tc, .bool Gb.rd, .bool Gb.ra, .bool Gb.ad, .bool Gb.cd, .int .i64 Gb.rc, .slice Yb.q.a Yb.q.n Yb.q.c, .slice Yb.l1.a Yb.l1.n Yb.l1.c, .slice Yb.l2.a Yb.l2.n Yb.l2.c, .slice Yb.l3.a Yb.l3.n Yb.l3.c] 26))) := HB.out.trans (hBN.mono HB.out.size)
  have HMb : Hid (MRd (ub.alloc (.cells #[.int .u16 Gb.id, .bool Gb.rs, .int .i64 Gb.op, .bool Gb.aa, .bool Gb.tc, .bool Gb.rd, .bool Gb.ra, .bool Gb.ad, .bool Gb.cd, .int .i64 Gb.rc, .slice Yb.q.a Yb.q.n Yb.q.c, .slice Yb.l1.a Yb.l1.n Yb.l1.c, .slice Yb.l2.a Yb.l2.n Yb.l2.c, .slice Yb.l3.a Yb.l3.n Yb.l3.c] 26)) Gb Yb (cutF M 83)) := (H4.out.1 t83.out.1).below hN
  clear H4 hN hBN HMM
  go_upto_region 4 with (fail)
  generalize ub.alloc (.cells #[.int .u16 Gb.id, .bool Gb.rs, .int .i64 Gb.op, .bool Gb.aa, .bool Gb.tc, .bool Gb.rd, .bool Gb.ra, .bool Gb.ad, .bool Gb.cd, .int .i64 Gb.rc, .slice Yb.q.a Yb.q.n Yb.q.c, .slice Yb.l1.a Yb.l1.n Yb.l1.c, .slice Yb.l2.a Yb.l2.n Yb.l2.c, .slice Yb.l3.a Yb.l3.n Yb.l3.c] 26) = Wb at *
  obtain ⟨pb, hp⟩ : ∃ z, z = ub.heap.size := ⟨_, rfl⟩
  rw [← hp] at HXb
  simp only [← hp]
  clear hp
  go_wp2_with fail
  refine (K26 _).out.mono ?_
  rintro e vc ⟨xc, rfl, H3⟩
  replace HXa : Hid (vc.heap[pa]? = some (.cells #[.int .u16 H0.id, .bool H0.rs, .int .i64 H0.op, .bool H0.aa, .bool H0.tc, .bool H0.rd, .bool H0.ra, .bool H0.ad, .bool H0.cd, .int .i64 H0.rc, .slice Ya.q.a Ya.q.n Ya.q.c, .slice Ya.l1.a Ya.l1.n Ya.l1.c, .slice Ya.l2.a Ya.l2.n Ya.l2.c, .slice Ya.l3.a Ya.l3.n Ya.l3.c] 26)) := ((H3.out.2).block _ (box_lt HXa.out)).trans HXa.out
  replace HXb : Hid (vc.heap[pb]? = some (.cells #[.int .u16 Gb.id, .bool Gb.rs, .int .i64 Gb.op, .bool Gb.aa, .bool Gb.tc, .bool Gb.rd, .bool Gb.ra, .bool Gb.ad, .bool Gb.cd, .int .i64 Gb.rc, .slice Yb.q.a Yb.q.n Yb.q.c, .slice Yb.l1.a Yb.l1.n Yb.l1.c, .slice Yb.l2.a Yb.l2.n Yb.l2.c, .slice Yb.l3.a Yb.l3.n Yb.l3.c] 26)) := ((H3.out.2).block _ (box_lt HXb.out)).trans HXb.out
  have HMM : Hid (MRd vc H0 xc M) := H3.out.1
  replace HB : Hid (Below w.heap.size w vc) := HB.out.trans (H3.out.2.mono HB.out.size)
  replace HMa := Lib.hid (HMa.out.below H3.out.2)
  clear H3
  go_wp2_with fail
  refine (K16 _ 66 _ HMM.out).out.mono ?_
  rintro e uc ⟨G, Yc, rfl, H4⟩
  rw [t66.out.1]
  have hG : Hc = G := (by have h := (H4.out.1 t66.out.1).h; rw [← HHc.out] at h; exact h)
  subst hG
  have hN := newF_below uc (.cells #[.int .u16 Hc.id, .bool Hc.rs, .int .i64 Hc.op, .bool Hc.aa, .bool Hc.tc, .bool Hc.rd, .bool Hc.ra, .bool Hc.ad, .bool Hc.cd, .int .i64 Hc.rc, .slice Yc.q.a Yc.q.n Yc.q.c, .slice Yc.l1.a Yc.l1.n Yc.l1.c, .slice Yc.l2.a Yc.l2.n Yc.l2.c, .slice Yc.l3.a Yc.l3.n Yc.l3.c] 26)
  have hBN : Below vc.heap.size vc (uc.alloc (.cells #[.int .u16 Hc.id, .bool Hc.rs, .int .i64 Hc.op, .bool Hc.aa, .bool Hc.tc, .bool Hc.rd, .bool Hc.ra, .bool Hc.ad, .bool Hc.cd, .int .i64 Hc.rc, .slice Yc.q.a Yc.q.n Yc.q.c, .slice Yc.l1.a Yc.l1.n Yc.l1.c, .slice Yc.l2.a Yc.l2.n Yc.l2.c, .slice Yc.l3.a Yc.l3.n Yc.l3.c] 26)) := H4.out.2.trans (hN.mono H4.out.2.size)
  replace HXa : Hid ((uc.alloc (.cells #[.int .u16 Hc.id, .bool Hc.rs, .int .i64 Hc.op, .bool Hc.aa, .bool Hc.tc, .bool Hc.rd, .bool Hc.ra, .bool Hc.ad, .bool Hc.cd, .int .i64 Hc.rc, .slice Yc.q.a Yc.q.n Yc.q.c, .slice Yc.l1.a Yc.l1.n Yc.l1.c, .slice Yc.l2.a Yc.l2.n Yc.l2.c, .slice Yc.l3.a Yc.l3.n Yc.l3.c] 26)).heap[pa]? = some (.cells #[.int .u16 H0.id, .bool H0.rs, .int .i64 H0.op, .bool H0.aa, .bool H0.tc, .bool H0.rd, .bool H0.ra, .bool H0.ad, .bool H0.cd, .int .i64 H0.rc, .slice Ya.q.a Ya.q.n Ya.q.c, .slice Ya.l1.a Ya.l1.n Ya.l1.c, .slice Ya.l2.a Ya.l2.n Ya.l2.c, .slice Ya.l3.a Ya.l3.n Ya.l3.c] 26)) := ((hBN).block _ (box_lt HXa.out)).trans HXa.out
  replace HXb : Hid ((uc.alloc (.cells #[.int .u16 Hc.id, .bool Hc.rs, .int .i64 Hc.op, .bool Hc.aa, .bool Hc.tc, .bool Hc.rd, .bool Hc.ra, .bool Hc.ad, .bool Hc.cd, .int .i64 Hc.rc, .slice Yc.q.a Yc.q.n Yc.q.c, .slice Yc.l1.a Yc.l1.n Yc.l1.c, .slice Yc.l2.a Yc.l2.n Yc.l2.c, .slice Yc.l3.a Yc.l3.n Yc.l3.c] 26)).heap[pb]? = some (.cells #[.int .u16 Gb.id, .bool Gb.rs, .int .i64 Gb.op, .bool Gb.aa, .bool Gb.tc, .bool Gb.rd, .bool Gb.ra, .bool Gb.ad, .bool Gb.cd, .int .i64 Gb.rc, .slice Yb.q.a Yb.q.n Yb.q.c, .slice Yb.l1.a Yb.l1.n Yb.l1.c, .slice Yb.l2.a Yb.l2.n Yb.l2.c, .slice Yb.l3.a Yb.l3.n Yb.l3.c] 26)) := ((hBN).block _ (box_lt HXb.out)).trans HXb.out
  replace HMa := Lib.hid (HMa.out.below hBN)
  have HXc : Hid ((uc.alloc (.cells #[.int .u16 Hc.id, .bool Hc.rs, .int .i64 Hc.op, .bool Hc.aa, .bool Hc.tc, .bool Hc.rd, .bool Hc.ra, .bool Hc.ad, .bool Hc.cd, .int .i64 Hc.rc, .slice Yc.q.a Yc.q.n Yc.q.c, .slice Yc.l1.a Yc.l1.n Yc.l1.c, .slice Yc.l2.a Yc.l2.n Yc.l2.c, .slice Yc.l3.a Yc.l3.n Yc.l3.c] 26)).heap[uc.heap.size]? = some (.cells #[.int .u16 Hc.id, .bool Hc.rs, .int .i64 Hc.op, .bool Hc.aa, .bool Hc.tc, .bool Hc.rd, .bool Hc.ra, .bool Hc.ad, .bool Hc.cd, .int .i64 Hc.rc, .slice Yc.q.a Yc.q.n Yc.q.c, .slice Yc.l1.a Yc.l1.n Yc.l1.c, .slice Yc.l2.a Yc.l2.n Yc.l2.c, .slice Yc.l3.a Yc.l3.n Yc.l3.c] 26)) := heap_alloc_new _ _
  replace HB : Hid (Below w.heap.size w (uc.alloc (.cells #[.int .u16 Hc.id, .bool Hc.rs, .int .i64 Hc.op, .bool Hc.aa, .bool Hc.tc, .bool Hc.rd, .bool Hc.ra, .bool Hc.ad, .bool Hc.cd, .int .i64 Hc.rc, .slice Yc.q.a Yc.q.n Yc.q.c, .slice Yc.l1.a Yc.l1.n Yc.l1.c, .slice Yc.l2.a Yc.l2.n Yc.l2.c, .slice Yc.l3.a Yc.l3.n Yc.l3.c] 26))) := HB.out.trans (hBN.mono HB.out.size)
  have HMc : Hid (MRd (uc.alloc (.cells #[.int .u16 Hc.id, .bool Hc.rs, .int .i64 Hc.op, .bool Hc.aa, .bool Hc.tc, .bool Hc.rd, .bool Hc.ra, .bool Hc.ad, .bool Hc.cd, .int .i64 Hc.rc, .slice Yc.q.a Yc.q.n Yc.q.c, .slice Yc.l1.a Yc.l1.n Yc.l1.c, .slice Yc.l2.a Yc.l2.n Yc.l2.c, .slice Yc.l3.a Yc.l3.n Yc.l3.c] 26)) Hc Yc (cutF M 66)) := (H4.out.1 t66.out.1).below hN
  clear H4 hN hBN HMM
  go_upto_region 5 with (fail)
  generalize uc.alloc (.cells #[.int .u16 Hc.id, .bool Hc.rs, .int .i64 Hc.op, .bool Hc.aa, .bool Hc.tc, .bool Hc.rd, .bool Hc.ra, .bool Hc.ad, .bool Hc.cd, .int .i64 Hc.rc, .slice Yc.q.a Yc.q.n Yc.q.c, .slice Yc.l1.a Yc.l1.n Yc.l1.c, .slice Yc.l2.a Yc.l2.n Yc.l2.c, .slice Yc.l3.a Yc.l3.n Yc.l3.c] 26) = Wc at *
  obtain ⟨pc, hp⟩ : ∃ z, z = uc.heap.size := ⟨_, rfl⟩
  rw [← hp] at HXc
  simp only [← hp]
  clear hp
  go_wp2_with fail
  refine (K26 _).out.mono ?_
  rintro e vd ⟨xd, rfl, H3⟩
  replace HXa : Hid (vd.heap[pa]? = some (.cells #[.int .u16 H0.id, .bool H0.rs, .int .i64 H0.op, .bool H0.aa, .bool H0.tc, .bool H0.rd, .bool H0.ra, .bool H0.ad, .bool H0.cd, .int .i64 H0.rc, .slice Ya.q.a Ya.q.n Ya.q.c, .slice Ya.l1.a Ya.l1.n Ya.l1.c, .slice Ya.l2.a Ya.l2.n Ya.l2.c, .slice Ya.l3.a Ya.l3.n Ya.l3.c] 26)) := ((H3.out.2).block _ (box_lt HXa.out)).trans HXa.out
  replace HXb : Hid (vd.heap[pb]? = some (.cells #[.int .u16 Gb.id, .bool Gb.rs, .int .i64 Gb.op, .bool Gb.aa, .bool Gb.tc, .bool Gb.rd, .bool Gb.ra, .bool Gb.ad, .bool Gb.cd, .int .i64 Gb.rc, .slice Yb.q.a Yb.q.n Yb.q.c, .slice Yb.l1.a Yb.l1.n Yb.l1.c, .slice Yb.l2.a Yb.l2.n Yb.l2.c, .slice Yb.l3.a Yb.l3.n Yb.l3.c] 26)) := ((H3.out.2).block _ (box_lt HXb.out)).trans HXb.out
  replace HXc : Hid (vd.heap[pc]? = some (.cells #[.int .u16 Hc.id, .bool Hc.rs, .int .i64 Hc.op, .bool Hc.aa, .bool Hc.tc, .bool Hc.rd, .bool Hc.ra, .bool Hc.ad, .bool Hc.cd, .int .i64 Hc.rc, .slice Yc.q.a Yc.q.n Yc.q.c, .slice Yc.l1.a Yc.l1.n Yc.l1.c, .slice Yc.l2.a Yc.l2.n Yc.l2.c, .slice Yc.l3.a Yc.l3.n Yc.l3.c] 26)) := ((H3.out.2).block _ (box_lt HXc.out)).trans HXc.out
  have HMM : Hid (MRd vd H0 xd M) := H3.out.1
  replace HB : Hid (Below w.heap.size w vd) := HB.out.trans (H3.out.2.mono HB.out.size)
  replace HMa := Lib.hid (HMa.out.below H3.out.2)
  replace HMc := Lib.hid (HMc.out.below H3.out.2)
  clear H3
  go_wp2_with fail
  refine (K16 _ 51 _ HMM.out).out.mono ?_
  rintro e ud ⟨G, Yd, rfl, H4⟩
  rw [t51.out]
  have hG : Hc = G := (by have h := (H4.out.1 t51.out).h; rw [t51m.out, ← HHc.out] at h; exact h)
  subst hG
  have hN := newF_below ud (.cells #[.int .u16 Hc.id, .bool Hc.rs, .int .i64 Hc.op, .bool Hc.aa, .bool Hc.tc, .bool Hc.rd, .bool Hc.ra, .bool Hc.ad, .bool Hc.cd, .int .i64 Hc.rc, .slice Yd.q.a Yd.q.n Yd.q.c, .slice Yd.l1.a Yd.l1.n Yd.l1.c, .slice Yd.l2.a Yd.l2.n Yd.l2.c, .slice Yd.l3.a Yd.l3.n Yd.l3.c] 26)
  have hBN : Below vd.heap.size vd (ud.alloc (.cells #[.int .u16 Hc.id, .bool Hc.rs, .int .i64 Hc.op, .bool Hc.aa, .bool Hc.tc, .bool Hc.rd, .bool Hc.ra, .bool Hc.ad, .bool Hc.cd, .int .i64 Hc.rc, .slice Yd.q.a Yd.q.n Yd.q.c, .slice Yd.l1.a Yd.l1.n Yd.l1.c, .slice Yd.l2.a Yd.l2.n Yd.l2.c, .slice Yd.l3.a Yd.l3.n Yd.l3.c] 26)) := H4.out.2.trans (hN.mono H4.out.2.size)
  replace HXa : Hid ((ud.alloc (.cells #[.int .u16 Hc.id, .bool Hc.rs, .int .i64 Hc.op, .bool Hc.aa, .bool Hc.tc, .bool Hc.rd, .bool Hc.ra, .bool Hc.ad, .bool Hc.cd, .int .i64 Hc.rc, .slice Yd.q.a Yd.q.n Yd.q.c, .slice Yd.l1.a Yd.l1.n Yd.l1.c, .slice Yd.l2.a Yd.l2.n Yd.l2.c, .slice Yd.l3.a Yd.l3.n Yd.l3.c] 26)).heap[pa]? = some (.cells #[.int .u16 H0.id, .bool H0.rs, .int .i64 H0.op, .bool H0.aa, .bool H0.tc, .bool H0.rd, .bool H0.ra, .bool H0.ad, .bool H0.cd, .int .i64 H0.rc, .slice Ya.q.a Ya.q.n Ya.q.c, .slice Ya.l1.a Ya.l1.n Ya.l1.c, .slice Ya.l2.a Ya.l2.n Ya.l2.c, .slice Ya.l3.a Ya.l3.n Ya.l3.c] 26)) := ((hBN).block _ (box_lt HXa.out)).trans HXa.out
  replace HXb : Hid ((ud.alloc (.cells #[.int .u16 Hc.id, .bool Hc.rs, .int .i64 Hc.op, .bool Hc.aa, .bool Hc.tc, .bool Hc.rd, .bool Hc.ra, .bool Hc.ad, .bool Hc.cd, .int .i64 Hc.rc, .slice Yd.q.a Yd.q.n Yd.q.c, .slice Yd.l1.a Yd.l1.n Yd.l1.c, .slice Yd.l2.a Yd.l2.n Yd.l2.c, .slice Yd.l3.a Yd.l3.n Yd.l3.c] 26)).heap[pb]? = some (.cells #[.int .u16 Gb.id, .bool Gb.rs, .int .i64 Gb.op, .bool Gb.aa, .bool Gb.tc, .bool Gb.rd, .bool Gb.ra, .bool Gb.ad, .bool Gb.cd, .int .i64 Gb.rc, .slice Yb.q.a Yb.q.n Yb.q.c, .slice Yb.l1.a Yb.l1.n Yb.l1.c, .slice Yb.l2.a Yb.l2.n Yb.l2.c, .slice Yb.l3.a Yb.l3.n Yb.l3.c] 26)) := ((hBN).block _ (box_lt HXb.out)).trans HXb.out
  replace HXc : Hid ((ud.alloc (.cells #[.int .u16 Hc.id, .bool Hc.rs, .int .i64 Hc.op, .bool Hc.aa, .bool Hc.tc, .bool Hc.rd, .bool Hc.ra, .bool Hc.ad, .bool Hc.cd, .int .i64 Hc.rc, .slice Yd.q.a Yd.q.n Yd.q.c, .slice Yd.l1.a Yd.l1.n Yd.l1.c, .slice Yd.l2.a Yd.l2.n Yd.l2.c, .slice Yd.l3.a Yd.l3.n Yd.l3.c] 26)).heap[pc]? = some (.cells #[.int .u16 Hc.id, .bool Hc.rs, .int .i64 Hc.op, .bool Hc.aa, .bool Hc.tc, .bool Hc.rd, .bool Hc.ra, .bool Hc.ad, .bool Hc.cd, .int .i64 Hc.rc, .slice Yc.q.a Yc.q.n Yc.q.c, .slice Yc.l1.a Yc.l1.n Yc.l1.c, .slice Yc.l2.a Yc.l2.n Yc.l2.c, .slice Yc.l3.a Yc.l3.n Yc.l3.c] 26)) := ((hBN).block _ (box_lt HXc.out)).trans HXc.out
  replace HMa := Lib.hid (HMa.out.below hBN)
  replace HMc := Lib.hid (HMc.out.below hBN)
  have HXd : Hid ((ud.alloc (.cells #[.int .u16 Hc.id, .bool Hc.rs, .int .i64 Hc.op, .bool Hc.aa, .bool Hc.tc, .bool Hc.rd, .bool Hc.ra, .bool Hc.ad, .bool Hc.cd, .int .i64 Hc.rc, .slice Yd.q.a Yd.q.n Yd.q.c, .slice Yd.l1.a Yd.l1.n Yd.l1.c, .slice Yd.l2.a Yd.l2.n Yd.l2.c, .slice Yd.l3.a Yd.l3.n Yd.l3.c] 26)).heap[ud.heap.size]? = some (.cells #[.int .u16 Hc.id, .bool Hc.rs, .int .i64 Hc.op, .bool Hc.aa, .bool Hc.tc, .bool Hc.rd, .bool Hc.ra, .bool Hc.ad, .bool Hc.cd, .int .i64 Hc.rc, .slice Yd.q.a Yd.q.n Yd.q.c, .slice Yd.l1.a Yd.l1.n Yd.l1.c, .slice Yd.l2.a Yd.l2.n Yd.l2.c, .slice Yd.l3.a Yd.l3.n Yd.l3.c] 26)) := heap_alloc_new _ _
  replace HB : Hid (Below w.heap.size w (ud.alloc (.cells #[.int .u16 Hc.id, .bool Hc.rs, .int .i64 Hc.op, .bool Hc.aa, .bool Hc.tc, .bool Hc.rd, .bool Hc.ra, .bool Hc.ad, .bool Hc.cd, .int .i64 Hc.rc, .slice Yd.q.a Yd.q.n Yd.q.c, .slice Yd.l1.a Yd.l1.n Yd.l1.c, .slice Yd.l2.a Yd.l2.n Yd.l2.c, .slice Yd.l3.a Yd.l3.n Yd.l3.c] 26))) := HB.out.trans (hBN.mono HB.out.size)
  have HMd : Hid (MRd (ud.alloc (.cells #[.int .u16 Hc.id, .bool Hc.rs, .int .i64 Hc.op, .bool Hc.aa, .bool Hc.tc, .bool Hc.rd, .bool Hc.ra, .bool Hc.ad, .bool Hc.cd, .int .i64 Hc.rc, .slice Yd.q.a Yd.q.n Yd.q.c, .slice Yd.l1.a Yd.l1.n Yd.l1.c, .slice Yd.l2.a Yd.l2.n Yd.l2.c, .slice Yd.l3.a Yd.l3.n Yd.l3.c] 26)) Hc Yd (cutF M 66)) := by show MRd _ _ _ _; have h := (H4.out.1 t51.out).below hN; rw [t51m.out] at h; exact h
  clear H4 hN hBN HMM
  go_upto_region 6 with (fail)
  generalize ud.alloc (.cells #[.int .u16 Hc.id, .bool Hc.rs, .int .i64 Hc.op, .bool Hc.aa, .bool Hc.tc, .bool Hc.rd, .bool Hc.ra, .bool Hc.ad, .bool Hc.cd, .int .i64 Hc.rc, .slice Yd.q.a Yd.q.n Yd.q.c, .slice Yd.l1.a Yd.l1.n Yd.l1.c, .slice Yd.l2.a Yd.l2.n Yd.l2.c, .slice Yd.l3.a Yd.l3.n Yd.l3.c] 26) = Wd at *
  obtain ⟨pd, hp⟩ : ∃ z, z = ud.heap.size := ⟨_, rfl⟩
  rw [← hp] at HXd
  simp only [← hp]
  clear hp
  go_wp2_with fail
  refine (K26 _).out.mono ?_
  rintro e vn ⟨xn, rfl, H3⟩
  replace HXa : Hid (vn.heap[pa]? = some (.cells #[.int .u16 H0.id, .bool H0.rs, .int .i64 H0.op, .bool H0.aa, .bool H0.tc, .bool H0.rd, .bool H0.ra, .bool H0.ad, .bool H0.cd, .int .i64 H0.rc, .slice Ya.q.a Ya.q.n Ya.q.c, .slice Ya.l1.a Ya.l1.n Ya.l1.c, .slice Ya.l2.a Ya.l2.n Ya.l2.c, .slice Ya.l3.a Ya.l3.n Ya.l3.c] 26)) := ((H3.out.2).block _ (box_lt HXa.out)).trans HXa.out
  replace HXb : Hid (vn.heap[pb]? = some (.cells #[.int .u16 Gb.id, .bool Gb.rs, .int .i64 Gb.op, .bool Gb.aa, .bool Gb.tc, .bool Gb.rd, .bool Gb.ra, .bool Gb.ad, .bool Gb.cd, .int .i64 Gb.rc, .slice Yb.q.a Yb.q.n Yb.q.c, .slice Yb.l1.a Yb.l1.n Yb.l1.c, .slice Yb.l2.a Yb.l2.n Yb.l2.c, .slice Yb.l3.a Yb.l3.n Yb.l3.c] 26)) := ((H3.out.2).block _ (box_lt HXb.out)).trans HXb.out
  replace HXc : Hid (vn.heap[pc]? = some (.cells #[.int .u16 Hc.id, .bool Hc.rs, .int .i64 Hc.op, .bool Hc.aa, .bool Hc.tc, .bool Hc.rd, .bool Hc.ra, .bool Hc.ad, .bool Hc.cd, .int .i64 Hc.rc, .slice Yc.q.a Yc.q.n Yc.q.c, .slice Yc.l1.a Yc.l1.n Yc.l1.c, .slice Yc.l2.a Yc.l2.n Yc.l2.c, .slice Yc.l3.a Yc.l3.n Yc.l3.c] 26)) := ((H3.out.2).block _ (box_lt HXc.out)).trans HXc.out
  replace HXd : Hid (vn.heap[pd]? = some (.cells #[.int .u16 Hc.id, .bool Hc.rs, .int .i64 Hc.op, .bool Hc.aa, .bool Hc.tc, .bool Hc.rd, .bool Hc.ra, .bool Hc.ad, .bool Hc.cd, .int .i64 Hc.rc, .slice Yd.q.a Yd.q.n Yd.q.c, .slice Yd.l1.a Yd.l1.n Yd.l1.c, .slice Yd.l2.a Yd.l2.n Yd.l2.c, .slice Yd.l3.a Yd.l3.n Yd.l3.c] 26)) := ((H3.out.2).block _ (box_lt HXd.out)).trans HXd.out
  have HMM : Hid (MRd vn H0 xn M) := H3.out.1
  replace HB : Hid (Below w.heap.size w vn) := HB.out.trans (H3.out.2.mono HB.out.size)
  replace HMa := Lib.hid (HMa.out.below H3.out.2)
  replace HMc := Lib.hid (HMc.out.below H3.out.2)
  replace HMd := Lib.hid (HMd.out.below H3.out.2)
  clear H3
  go_wp2_with fail
  refine (K16 _ 50 _ HMM.out).out.mono ?_
  rintro e un ⟨G, Yn, rfl, H4⟩
  rw [t50.out.1]
  have hG : Hn = G := (by have h := (H4.out.1 t50.out.1).h; rw [← HHn.out] at h; exact h)
  subst hG
  have hN := newF_below un (.cells #[.int .u16 Hn.id, .bool Hn.rs, .int .i64 Hn.op, .bool Hn.aa, .bool Hn.tc, .bool Hn.rd, .bool Hn.ra, .bool Hn.ad, .bool Hn.cd, .int .i64 Hn.rc, .slice Yn.q.a Yn.q.n Yn.q.c, .slice Yn.l1.a Yn.l1.n Yn.l1.c, .slice Yn.l2.a Yn.l2.n Yn.l2.c, .slice Yn.l3.a Yn.l3.n Yn.l3.c] 26)
  have hBN : Below vn.heap.size vn (un.alloc (.cells #[.int .u16 Hn.id, .bool Hn.rs, .int .i64 Hn.op, .bool Hn.aa, .bool Hn.tc, .bool Hn.rd, .bool Hn.ra, .bool Hn.ad, .bool Hn.cd, .int .i64 Hn.rc, .slice Yn.q.a Yn.q.n Yn.q.c, .slice Yn.l1.a Yn.l1.n Yn.l1.c, .slice Yn.l2.a Yn.l2.n Yn.l2.c, .slice Yn.l3.a Yn.l3.n Yn.l3.c] 26)) := H4.out.2.trans (hN.mono H4.out.2.size)
  replace HXa : Hid ((un.alloc (.cells #[.int .u16 Hn.id, .bool Hn.rs, .int .i64 Hn.op, .bool Hn.aa, .bool Hn.tc, .bool Hn.rd, .bool Hn.ra, .bool Hn.ad, .bool Hn.cd, .int .i64 Hn.rc, .slice Yn.q.a Yn.q.n Yn.q.c, .slice Yn.l1.a Yn.l1.n Yn.l1.c, .slice Yn.l2.a Yn.l2.n Yn.l2.c, .slice Yn.l3.a Yn.l3.n Yn.l3.c] 26)).heap[pa]? = some (.cells #[.int .u16 H0.id, .bool H0.rs, .int .i64 H0.op, .bool H0.aa, .bool H0.tc, .bool H0.rd, .bool H0.ra, .bool H0.ad, .bool H0.cd, .int .i64 H0.rc, .slice Ya.q.a Ya.q.n Ya.q.c, .slice Ya.l1.a Ya.l1.n Ya.l1.c, .slice Ya.l2.a Ya.l2.n Ya.l2.c, .slice Ya.l3.a Ya.l3.n Ya.l3.c] 26)) := ((hBN).block _ (box_lt HXa.out)).trans HXa.out
  replace HXb : Hid ((un.alloc (.cells #[.int .u16 Hn.id, .bool Hn.rs, .int .i64 Hn.op, .bool Hn.aa, .bool Hn.tc, .bool Hn.rd, .bool Hn.ra, .bool Hn.ad, .bool Hn.cd, .int .i64 Hn.rc, .slice Yn.q.a Yn.q.n Yn.q.c, .slice Yn.l1.a Yn.l1.n Yn.l1.c, .slice Yn.l2.a Yn.l2.n Yn.l2.c, .slice Yn.l3.a Yn.l3.n Yn.l3.c] 26)).heap[pb]? = some (.cells #[.int .u16 Gb.id, .bool Gb.rs, .int .i64 Gb.op, .bool Gb.aa, .bool Gb.tc, .bool Gb.rd, .bool Gb.ra, .bool Gb.ad, .bool Gb.cd, .int .i64 Gb.rc, .slice Yb.q.a Yb.q.n Yb.q.c, .slice Yb.l1.a Yb.l1.n Yb.l1.c, .slice Yb.l2.a Yb.l2.n Yb.l2.c, .slice Yb.l3.a Yb.l3.n Yb.l3.c] 26)) := ((hBN).block _ (box_lt HXb.out)).trans HXb.out
  replace HXc : Hid ((un.alloc (.cells #[.int .u16 Hn.id, .bool Hn.rs, .int .i64 Hn.op, .bool Hn.aa, .bool Hn.tc, .bool Hn.rd, .bool Hn.ra, .bool Hn.ad, .bool Hn.cd, .int .i64 Hn.rc, .slice Yn.q.a Yn.q.n Yn.q.c, .slice Yn.l1.a Yn.l1.n Yn.l1.c, .slice Yn.l2.a Yn.l2.n Yn.l2.c, .slice Yn.l3.a Yn.l3.n Yn.l3.c] 26)).heap[pc]? = some (.cells #[.int .u16 Hc.id, .bool Hc.rs, .int .i64 Hc.op, .bool Hc.aa, .bool Hc.tc, .bool Hc.rd, .bool Hc.ra, .bool Hc.ad, .bool Hc.cd, .int .i64 Hc.rc, .slice Yc.q.a Yc.q.n Yc.q.c, .slice Yc.l1.a Yc.l1.n Yc.l1.c, .slice Yc.l2.a Yc.l2.n Yc.l2.c, .slice Yc.l3.a Yc.l3.n Yc.l3.c] 26)) := ((hBN).block _ (box_lt HXc.out)).trans HXc.out
  replace HXd : Hid ((un.alloc (.cells #[.int .u16 Hn.id, .bool Hn.rs, .int .i64 Hn.op, .bool Hn.aa, .bool Hn.tc, .bool Hn.rd, .bool Hn.ra, .bool Hn.ad, .bool Hn.cd, .int .i64 Hn.rc, .slice Yn.q.a Yn.q.n Yn.q.c, .slice Yn.l1.a Yn.l1.n Yn.l1.c, .slice Yn.l2.a Yn.l2.n Yn.l2.c, .slice Yn.l3.a Yn.l3.n Yn.l3.c] 26)).heap[pd]? = some (.cells #[.int .u16 Hc.id, .bool Hc.rs, .int .i64 Hc.op, .bool Hc.aa, .bool Hc.tc, .bool Hc.rd, .bool Hc.ra, .bool Hc.ad, .bool Hc.cd, .int .i64 Hc.rc, .slice Yd.q.a Yd.q.n Yd.q.c, .slice Yd.l1.a Yd.l1.n Yd.l1.c, .slice Yd.l2.a Yd.l2.n Yd.l2.c, .slice Yd.l3.a Yd.l3.n Yd.l3.c] 26)) := ((hBN).block _ (box_lt HXd.out)).trans HXd.out
  replace HMa := Lib.hid (HMa.out.below hBN)
  replace HMc := Lib.hid (HMc.out.below hBN)
  replace HMd := Lib.hid (HMd.out.below hBN)
  have HXn : Hid ((un.alloc (.cells #[.int .u16 Hn.id, .bool Hn.rs, .int .i64 Hn.op, .bool Hn.aa, .bool Hn.tc, .bool Hn.rd, .bool Hn.ra, .bool Hn.ad, .bool Hn.cd, .int .i64 Hn.rc, .slice Yn.q.a Yn.q.n Yn.q.c, .slice Yn.l1.a Yn.l1.n Yn.l1.c, .slice Yn.l2.a Yn.l2.n Yn.l2.c, .slice Yn.l3.a Yn.l3.n Yn.l3.c] 26)).heap[un.heap.size]? = some (.cells #[.int .u16 Hn.id, .bool Hn.rs, .int .i64 Hn.op, .bool Hn.aa, .bool Hn.tc, .bool Hn.rd, .bool Hn.ra, .bool Hn.ad, .bool Hn.cd, .int .i64 Hn.rc, .slice Yn.q.a Yn.q.n Yn.q.c, .slice Yn.l1.a Yn.l1.n Yn.l1.c, .slice Yn.l2.a Yn.l2.n Yn.l2.c, .slice Yn.l3.a Yn.l3.n Yn.l3.c] 26)) := heap_alloc_new _ _
  replace HB : Hid (Below w.heap.size w (un.alloc (.cells #[.int .u16 Hn.id, .bool Hn.rs, .int .i64 Hn.op, .bool Hn.aa, .bool Hn.tc, .bool Hn.rd, .bool Hn.ra, .bool Hn.ad, .bool Hn.cd, .int .i64 Hn.rc, .slice Yn.q.a Yn.q.n Yn.q.c, .slice Yn.l1.a Yn.l1.n Yn.l1.c, .slice Yn.l2.a Yn.l2.n Yn.l2.c, .slice Yn.l3.a Yn.l3.n Yn.l3.c] 26))) := HB.out.trans (hBN.mono HB.out.size)
  have HMn : Hid (MRd (un.alloc (.cells #[.int .u16 Hn.id, .bool Hn.rs, .int .i64 Hn.op, .bool Hn.aa, .bool Hn.tc, .bool Hn.rd, .bool Hn.ra, .bool Hn.ad, .bool Hn.cd, .int .i64 Hn.rc, .slice Yn.q.a Yn.q.n Yn.q.c, .slice Yn.l1.a Yn.l1.n Yn.l1.c, .slice Yn.l2.a Yn.l2.n Yn.l2.c, .slice Yn.l3.a Yn.l3.n Yn.l3.c] 26)) Hn Yn (cutF M 50)) := (H4.out.1 t50.out.1).below hN
  clear H4 hN hBN HMM
  go_upto_region 7 with (fail)
  generalize un.alloc (.cells #[.int .u16 Hn.id, .bool Hn.rs, .int .i64 Hn.op, .bool Hn.aa, .bool Hn.tc, .bool Hn.rd, .bool Hn.ra, .bool Hn.ad, .bool Hn.cd, .int .i64 Hn.rc, .slice Yn.q.a Yn.q.n Yn.q.c, .slice Yn.l1.a Yn.l1.n Yn.l1.c, .slice Yn.l2.a Yn.l2.n Yn.l2.c, .slice Yn.l3.a Yn.l3.n Yn.l3.c] 26) = Wn at *
  obtain ⟨pn, hp⟩ : ∃ z, z = un.heap.size := ⟨_, rfl⟩
  rw [← hp] at HXn
  simp only [← hp]
  clear hp
  go_wp2_with fail
  refine (K26 _).out.mono ?_
  rintro e vo ⟨xo, rfl, H3⟩
  replace HXa : Hid (vo.heap[pa]? = some (.cells #[.int .u16 H0.id, .bool H0.rs, .int .i64 H0.op, .bool H0.aa, .bool H0.tc, .bool H0.rd, .bool H0.ra, .bool H0.ad, .bool H0.cd, .int .i64 H0.rc, .slice Ya.q.a Ya.q.n Ya.q.c, .slice Ya.l1.a Ya.l1.n Ya.l1.c, .slice Ya.l2.a Ya.l2.n Ya.l2.c, .slice Ya.l3.a Ya.l3.n Ya.l3.c] 26)) := ((H3.out.2).block _ (box_lt HXa.out)).trans HXa.out
  replace HXb : Hid (vo.heap[pb]? = some (.cells #[.int .u16 Gb.id, .bool Gb.rs, .int .i64 Gb.op, .bool Gb.aa, .bool Gb.tc, .bool Gb.rd, .bool Gb.ra, .bool Gb.ad, .bool Gb.cd, .int .i64 Gb.rc, .slice Yb.q.a Yb.q.n Yb.q.c, .slice Yb.l1.a Yb.l1.n Yb.l1.c, .slice Yb.l2.a Yb.l2.n Yb.l2.c, .slice Yb.l3.a Yb.l3.n Yb.l3.c] 26)) := ((H3.out.2).block _ (box_lt HXb.out)).trans HXb.out
  replace HXc : Hid (vo.heap[pc]? = some (.cells #[.int .u16 Hc.id, .bool Hc.rs, .int .i64 Hc.op, .bool Hc.aa, .bool Hc.tc, .bool Hc.rd, .bool Hc.ra, .bool Hc.ad, .bool Hc.cd, .int .i64 Hc.rc, .slice Yc.q.a Yc.q.n Yc.q.c, .slice Yc.l1.a Yc.l1.n Yc.l1.c, .slice Yc.l2.a Yc.l2.n Yc.l2.c, .slice Yc.l3.a Yc.l3.n Yc.l3.c] 26)) := ((H3.out.2).block _ (box_lt HXc.out)).trans HXc.out
  replace HXd : Hid (vo.heap[pd]? = some (.cells #[.int .u16 Hc.id, .bool Hc.rs, .int .i64 Hc.op, .bool Hc.aa, .bool Hc.tc, .bool Hc.rd, .bool Hc.ra, .bool Hc.ad, .bool Hc.cd, .int .i64 Hc.rc, .slice Yd.q.a Yd.q.n Yd.q.c, .slice Yd.l1.a Yd.l1.n Yd.l1.c, .slice Yd.l2.a Yd.l2.n Yd.l2.c, .slice Yd.l3.a Yd.l3.n Yd.l3.c] 26)) := ((H3.out.2).block _ (box_lt HXd.out)).trans HXd.out
  replace HXn : Hid (vo.heap[pn]? = some (.cells #[.int .u16 Hn.id, .bool Hn.rs, .int .i64 Hn.op, .bool Hn.aa, .bool Hn.tc, .bool Hn.rd, .bool Hn.ra, .bool Hn.ad, .bool Hn.cd, .int .i64 Hn.rc, .slice Yn.q.a Yn.q.n Yn.q.c, .slice Yn.l1.a Yn.l1.n Yn.l1.c, .slice Yn.l2.a Yn.l2.n Yn.l2.c, .slice Yn.l3.a Yn.l3.n Yn.l3.c] 26)) := ((H3.out.2).block _ (box_lt HXn.out)).trans HXn.out
  have HMM : Hid (MRd vo H0 xo M) := H3.out.1
  replace HB : Hid (Below w.heap.size w vo) := HB.out.trans (H3.out.2.mono HB.out.size)
  replace HMa := Lib.hid (HMa.out.below H3.out.2)
  replace HMc := Lib.hid (HMc.out.below H3.out.2)
  replace HMd := Lib.hid (HMd.out.below H3.out.2)
  replace HMn := Lib.hid (HMn.out.below H3.out.2)
  clear H3
  go_wp2_with fail
  refine (K16 _ 19 _ HMM.out).out.mono ?_
  rintro e uo ⟨G, Yo, rfl, H4⟩
  rw [t19.out]
  have hG : Hn = G := (by have h := (H4.out.1 t19.out).h; rw [t19m.out, ← HHn.out] at h; exact h)
  subst hG
  have hN := newF_below uo (.cells #[.int .u16 Hn.id, .bool Hn.rs, .int .i64 Hn.op, .bool Hn.aa, .bool Hn.tc, .bool Hn.rd, .bool Hn.ra, .bool Hn.ad, .bool Hn.cd, .int .i64 Hn.rc, .slice Yo.q.a Yo.q.n Yo.q.c, .slice Yo.l1.a Yo.l1.n Yo.l1.c, .slice Yo.l2.a Yo.l2.n Yo.l2.c, .slice Yo.l3.a Yo.l3.n Yo.l3.c] 26)
  have hBN : Below vo.heap.size vo (uo.alloc (.cells #[.int .u16 Hn.id, .bool Hn.rs, .int .i64 Hn.op, .bool Hn.aa, .bool Hn.tc, .bool Hn.rd, .bool Hn.ra, .bool Hn.ad, .bool Hn.cd, .int .i64 Hn.rc, .slice Yo.q.a Yo.q.n Yo.q.c, .slice Yo.l1.a Yo.l1.n Yo.l1.c, .slice Yo.l2.a Yo.l2.n Yo.l2.c, .slice Yo.l3.a Yo.l3.n Yo.l3.c] 26)) := H4.out.2.trans (hN.mono H4.out.2.size)
  replace HXa : Hid ((uo.alloc (.cells #[.int .u16 Hn.id, .bool Hn.rs, .int .i64 Hn.op, .bool Hn.aa, .bool Hn.tc, .bool Hn.rd, .bool Hn.ra, .bool Hn.ad, .bool Hn.cd, .int .i64 Hn.rc, .slice Yo.q.a Yo.q.n Yo.q.c, .slice Yo.l1.a Yo.l1.n Yo.l1.c, .slice Yo.l2.a Yo.l2.n Yo.l2.c, .slice Yo.l3.a Yo.l3.n Yo.l3.c] 26)).heap[pa]? = some (.cells #[.int .u16 H0.id, .bool H0.rs, .int .i64 H0.op, .bool H0.aa, .bool H0.tc, .bool H0.rd, .bool H0.ra, .bool H0.ad, .bool H0.cd, .int .i64 H0.rc, .slice Ya.q.a Ya.q.n Ya.q.c, .slice Ya.l1.a Ya.l1.n Ya.l1.c, .slice Ya.l2.a Ya.l2.n Ya.l2.c, .slice Ya.l3.a Ya.l3.n Ya.l3.c] 26)) := ((hBN).block _ (box_lt HXa.out)).trans HXa.out
  replace HXb : Hid ((uo.alloc (.cells #[.int .u16 Hn.id, .bool Hn.rs, .int .i64 Hn.op, .bool Hn.aa, .bool Hn.tc, .bool Hn.rd, .bool Hn.ra, .bool Hn.ad, .bool Hn.cd, .int .i64 Hn.rc, .slice Yo.q.a Yo.q.n Yo.q.c, .slice Yo.l1.a Yo.l1.n Yo.l1.c, .slice Yo.l2.a Yo.l2.n Yo.l2.c, .slice Yo.l3.a Yo.l3.n Yo.l3.c] 26)).heap[pb]? = some (.cells #[.int .u16 Gb.id, .bool Gb.rs, .int .i64 Gb.op, .bool Gb.aa, .bool Gb.tc, .bool Gb.rd, .bool Gb.ra, .bool Gb.ad, .bool Gb.cd, .int .i64 Gb.rc, .slice Yb.q.a Yb.q.n Yb.q.c, .slice Yb.l1.a Yb.l1.n Yb.l1.c, .slice Yb.l2.a Yb.l2.n Yb.l2.c, .slice Yb.l3.a Yb.l3.n Yb.l3.c] 26)) := ((hBN).block _ (box_lt HXb.out)).trans HXb.out
  replace HXc : Hid ((uo.alloc (.cells #[.int .u16 Hn.id, .bool Hn.rs, .int .i64 Hn.op, .bool Hn.aa, .bool Hn.tc, .bool Hn.rd, .bool Hn.ra, .bool Hn.ad, .bool Hn.cd, .int .i64 Hn.rc, .slice Yo.q.a Yo.q.n Yo.q.c, .slice Yo.l1.a Yo.l1.n Yo.l1.c, .slice Yo.l2.a Yo.l2.n Yo.l2.c, .slice Yo.l3.a Yo.l3.n Yo.l3.c] 26)).heap[pc]? = some (.cells #[.int .u16 Hc.id, .bool Hc.rs, .int .i64 Hc.op, .bool Hc.aa, .bool Hc.tc, .bool Hc.rd, .bool Hc.ra, .bool Hc.ad, .bool Hc.cd, .int .i64 Hc.rc, .slice Yc.q.a Yc.q.n Yc.q.c, .slice Yc.l1.a Yc.l1.n Yc.l1.c, .slice Yc.l2.a Yc.l2.n Yc.l2.c, .slice Yc.l3.a Yc.l3.n Yc.l3.c] 26)) := ((hBN).block _ (box_lt HXc.out)).trans HXc.out
  replace HXd : Hid ((uo.alloc (.cells #[.int .u16 Hn.id, .bool Hn.rs, .int .i64 Hn.op, .bool Hn.aa, .bool Hn.tc, .bool Hn.rd, .bool Hn.ra, .bool Hn.ad, .bool Hn.cd, .int .i64 Hn.rc, .slice Yo.q.a Yo.q.n Yo.q.c, .slice Yo.l1.a Yo.l1.n Yo.l1.c, .slice Yo.l2.a Yo.l2.n Yo.l2.c, .slice Yo.l3.a Yo.l3.n Yo.l3.c] 26)).heap[pd]? = some (.cells #[.int .u16 Hc.id, .bool Hc.rs, .int .i64 Hc.op, .bool Hc.aa, .bool Hc.tc, .bool Hc.rd, .bool Hc.ra, .bool Hc.ad, .bool Hc.cd, .int .i64 Hc.rc, .slice Yd.q.a Yd.q.n Yd.q.c, .slice Yd.l1.a Yd.l1.n Yd.l1.c, .slice Yd.l2.a Yd.l2.n Yd.l2.c, .slice Yd.l3.a Yd.l3.n Yd.l3.c] 26)) := ((hBN).block _ (box_lt HXd.out)).trans HXd.out
  replace HXn : Hid ((uo.alloc (.cells #[.int .u16 Hn.id, .bool Hn.rs, .int .i64 Hn.op, .bool Hn.aa, .bool Hn.tc, .bool Hn.rd, .bool Hn.ra, .bool Hn.ad, .bool Hn.cd, .int .i64 Hn.rc, .slice Yo.q.a Yo.q.n Yo.q.c, .slice Yo.l1.a Yo.l1.n Yo.l1.c, .slice Yo.l2.a Yo.l2.n Yo.l2.c, .slice Yo.l3.a Yo.l3.n Yo.l3.c] 26)).heap[pn]? = some (.cells #[.int .u16 Hn.id, .bool Hn.rs, .int .i64 Hn.op, .bool Hn.aa, .bool Hn.tc, .bool Hn.rd, .bool Hn.ra, .bool Hn.ad, .bool Hn.cd, .int .i64 Hn.rc, .slice Yn.q.a Yn.q.n Yn.q.c, .slice Yn.l1.a Yn.l1.n Yn.l1.c, .slice Yn.l2.a Yn.l2.n Yn.l2.c, .slice Yn.l3.a Yn.l3.n Yn.l3.c] 26)) := ((hBN).block _ (box_lt HXn.out)).trans HXn.out
  replace HMa := Lib.hid (HMa.out.below hBN)
  replace HMc := Lib.hid (HMc.out.below hBN)
  replace HMd := Lib.hid (HMd.out.below hBN)
  replace HMn := Lib.hid (HMn.out.below hBN)
  have HXo : Hid ((uo.alloc (.cells #[.int .u16 Hn.id, .bool Hn.rs, .int .i64 Hn.op, .bool Hn.aa, .bool Hn.tc, .bool Hn.rd, .bool Hn.ra, .bool Hn.ad, .bool Hn.cd, .int .i64 Hn.rc, .slice Yo.q.a Yo.q.n Yo.q.c, .slice Yo.l1.a Yo.l1.n Yo.l1.c, .slice Yo.l2.a Yo.l2.n Yo.l2.c, .slice Yo.l3.a Yo.l3.n Yo.l3.c] 26)).heap[uo.heap.size]? = some (.cells #[.int .u16 Hn.id, .bool Hn.rs, .int .i64 Hn.op, .bool Hn.aa, .bool Hn.tc, .bool Hn.rd, .bool Hn.ra, .bool Hn.ad, .bool Hn.cd, .int .i64 Hn.rc, .slice Yo.q.a Yo.q.n Yo.q.c, .slice Yo.l1.a Yo.l1.n Yo.l1.c, .slice Yo.l2.a Yo.l2.n Yo.l2.c, .slice Yo.l3.a Yo.l3.n Yo.l3.c] 26)) := heap_alloc_new _ _
  replace HB : Hid (Below w.heap.size w (uo.alloc (.cells #[.int .u16 Hn.id, .bool Hn.rs, .int .i64 Hn.op, .bool Hn.aa, .bool Hn.tc, .bool Hn.rd, .bool Hn.ra, .bool Hn.ad, .bool Hn.cd, .int .i64 Hn.rc, .slice Yo.q.a Yo.q.n Yo.q.c, .slice Yo.l1.a Yo.l1.n Yo.l1.c, .slice Yo.l2.a Yo.l2.n Yo.l2.c, .slice Yo.l3.a Yo.l3.n Yo.l3.c] 26))) := HB.out.trans (hBN.mono HB.out.size)
  have HMo : Hid (MRd (uo.alloc (.cells #[.int .u16 Hn.id, .bool Hn.rs, .int .i64 Hn.op, .bool Hn.aa, .bool Hn.tc, .bool Hn.rd, .bool Hn.ra, .bool Hn.ad, .bool Hn.cd, .int .i64 Hn.rc, .slice Yo.q.a Yo.q.n Yo.q.c, .slice Yo.l1.a Yo.l1.n Yo.l1.c, .slice Yo.l2.a Yo.l2.n Yo.l2.c, .slice Yo.l3.a Yo.l3.n Yo.l3.c] 26)) Hn Yo (cutF M 50)) := by show MRd _ _ _ _; have h := (H4.out.1 t19.out).below hN; rw [t19m.out] at h; exact h
  clear H4 hN hBN HMM
  go_upto_region 8 with (fail)
  generalize uo.alloc (.cells #[.int .u16 Hn.id, .bool Hn.rs, .int .i64 Hn.op, .bool Hn.aa, .bool Hn.tc, .bool Hn.rd, .bool Hn.ra, .bool Hn.ad, .bool Hn.cd, .int .i64 Hn.rc, .slice Yo.q.a Yo.q.n Yo.q.c, .slice Yo.l1.a Yo.l1.n Yo.l1.c, .slice Yo.l2.a Yo.l2.n Yo.l2.c, .slice Yo.l3.a Yo.l3.n Yo.l3.c] 26) = Wo at *
  obtain ⟨po, hp⟩ : ∃ z, z = uo.heap.size := ⟨_, rfl⟩
  rw [← hp] at HXo
  simp only [← hp]
  clear hp
  go_wp2_with fail
  refine (K26 _).out.mono ?_
  rintro e vl ⟨xl, rfl, H3⟩
  replace HXa : Hid (vl.heap[pa]? = some (.cells #[.int .u16 H0.id, .bool H0.rs, .int .i64 H0.op, .bool H0.aa, .bool H0.tc, .bool H0.rd, .bool H0.ra, .bool H0.ad, .bool H0.cd, .int .i64 H0.rc, .slice Ya.q.a Ya.q.n Ya.q.c, .slice Ya.l1.a Ya.l1.n Ya.l1.c, .slice Ya.l2.a Ya.l2.n Ya.l2.c, .slice Ya.l3.a Ya.l3.n Ya.l3.c] 26)) := ((H3.out.2).block _ (box_lt HXa.out)).trans HXa.out
  replace HXb : Hid (vl.heap[pb]? = some (.cells #[.int .u16 Gb.id, .bool Gb.rs, .int .i64 Gb.op, .bool Gb.aa, .bool Gb.tc, .bool Gb.rd, .bool Gb.ra, .bool Gb.ad, .bool Gb.cd, .int .i64 Gb.rc, .slice Yb.q.a Yb.q.n Yb.q.c, .slice Yb.l1.a Yb.l1.n Yb.l1.c, .slice Yb.l2.a Yb.l2.n Yb.l2.c, .slice Yb.l3.a Yb.l3.n Yb.l3.c] 26)) := ((H3.out.2).block _ (box_lt HXb.out)).trans HXb.out
  replace HXc : Hid (vl.heap[pc]? = some (.cells #[.int .u16 Hc.id, .bool Hc.rs, .int .i64 Hc.op, .bool Hc.aa, .bool Hc.tc, .bool Hc.rd, .bool Hc.ra, .bool Hc.ad, .bool Hc.cd, .int .i64 Hc.rc, .slice Yc.q.a Yc.q.n Yc.q.c, .slice Yc.l1.a Yc.l1.n Yc.l1.c, .slice Yc.l2.a Yc.l2.n Yc.l2.c, .slice Yc.l3.a Yc.l3.n Yc.l3.c] 26)) := ((H3.out.2).block _ (box_lt HXc.out)).trans HXc.out
  replace HXd : Hid (vl.heap[pd]? = some (.cells #[.int .u16 Hc.id, .bool Hc.rs, .int .i64 Hc.op, .bool Hc.aa, .bool Hc.tc, .bool Hc.rd, .bool Hc.ra, .bool Hc.ad, .bool Hc.cd, .int .i64 Hc.rc, .slice Yd.q.a Yd.q.n Yd.q.c, .slice Yd.l1.a Yd.l1.n Yd.l1.c, .slice Yd.l2.a Yd.l2.n Yd.l2.c, .slice Yd.l3.a Yd.l3.n Yd.l3.c] 26)) := ((H3.out.2).block _ (box_lt HXd.out)).trans HXd.out
  replace HXn : Hid (vl.heap[pn]? = some (.cells #[.int .u16 Hn.id, .bool Hn.rs, .int .i64 Hn.op, .bool Hn.aa, .bool Hn.tc, .bool Hn.rd, .bool Hn.ra, .bool Hn.ad, .bool Hn.cd, .int .i64 Hn.rc, .slice Yn.q.a Yn.q.n Yn.q.c, .slice Yn.l1.a Yn.l1.n Yn.l1.c, .slice Yn.l2.a Yn.l2.n Yn.l2.c, .slice Yn.l3.a Yn.l3.n Yn.l3.c] 26)) := ((H3.out.2).block _ (box_lt HXn.out)).trans HXn.out
  replace HXo : Hid (vl.heap[po]? = some (.cells #[.int .u16 Hn.id, .bool Hn.rs, .int .i64 Hn.op, .bool Hn.aa, .bool Hn.tc, .bool Hn.rd, .bool Hn.ra, .bool Hn.ad, .bool Hn.cd, .int .i64 Hn.rc, .slice Yo.q.a Yo.q.n Yo.q.c, .slice Yo.l1.a Yo.l1.n Yo.l1.c, .slice Yo.l2.a Yo.l2.n Yo.l2.c, .slice Yo.l3.a Yo.l3.n Yo.l3.c] 26)) := ((H3.out.2).block _ (box_lt HXo.out)).trans HXo.out
  have HMM : Hid (MRd vl H0 xl M) := H3.out.1
  replace HB : Hid (Below w.heap.size w vl) := HB.out.trans (H3.out.2.mono HB.out.size)
  replace HMa := Lib.hid (HMa.out.below H3.out.2)
  replace HMc := Lib.hid (HMc.out.below H3.out.2)
  replace HMd := Lib.hid (HMd.out.below H3.out.2)
  replace HMn := Lib.hid (HMn.out.below H3.out.2)
  replace HMo := Lib.hid (HMo.out.below H3.out.2)
  clear H3
  go_wp2_with fail
  refine (K16 _ 18 _ HMM.out).out.mono ?_
  rintro e ul ⟨G, Yl, rfl, H4⟩
  rw [t18.out]
  have hN := newF_below ul (.cells #[.int .u16 G.id, .bool G.rs, .int .i64 G.op, .bool G.aa, .bool G.tc, .bool G.rd, .bool G.ra, .bool G.ad, .bool G.cd, .int .i64 G.rc, .slice Yl.q.a Yl.q.n Yl.q.c, .slice Yl.l1.a Yl.l1.n Yl.l1.c, .slice Yl.l2.a Yl.l2.n Yl.l2.c, .slice Yl.l3.a Yl.l3.n Yl.l3.c] 26)
  have hBN : Below vl.heap.size vl (ul.alloc (.cells #[.int .u16 G.id, .bool G.rs, .int .i64 G.op, .bool G.aa, .bool G.tc, .bool G.rd, .bool G.ra, .bool G.ad, .bool G.cd, .int .i64 G.rc, .slice Yl.q.a Yl.q.n Yl.q.c, .slice Yl.l1.a Yl.l1.n Yl.l1.c, .slice Yl.l2.a Yl.l2.n Yl.l2.c, .slice Yl.l3.a Yl.l3.n Yl.l3.c] 26)) := H4.out.2.trans (hN.mono H4.out.2.size)
  replace HXa : Hid ((ul.alloc (.cells #[.int .u16 G.id, .bool G.rs, .int .i64 G.op, .bool G.aa, .bool G.tc, .bool G.rd, .bool G.ra, .bool G.ad, .bool G.cd, .int .i64 G.rc, .slice Yl.q.a Yl.q.n Yl.q.c, .slice Yl.l1.a Yl.l1.n Yl.l1.c, .slice Yl.l2.a Yl.l2.n Yl.l2.c, .slice Yl.l3.a Yl.l3.n Yl.l3.c] 26)).heap[pa]? = some (.cells #[.int .u16 H0.id, .bool H0.rs, .int .i64 H0.op, .bool H0.aa, .bool H0.tc, .bool H0.rd, .bool H0.ra, .bool H0.ad, .bool H0.cd, .int .i64 H0.rc, .slice Ya.q.a Ya.q.n Ya.q.c, .slice Ya.l1.a Ya.l1.n Ya.l1.c, .slice Ya.l2.a Ya.l2.n Ya.l2.c, .slice Ya.l3.a Ya.l3.n Ya.l3.c] 26)) := ((hBN).block _ (box_lt HXa.out)).trans HXa.out
  replace HXb : Hid ((ul.alloc (.cells #[.int .u16 G.id, .bool G.rs, .int .i64 G.op, .bool G.aa, .bool G.tc, .bool G.rd, .bool G.ra, .bool G.ad, .bool G.cd, .int .i64 G.rc, .slice Yl.q.a Yl.q.n Yl.q.c, .slice Yl.l1.a Yl.l1.n Yl.l1.c, .slice Yl.l2.a Yl.l2.n Yl.l2.c, .slice Yl.l3.a Yl.l3.n Yl.l3.c] 26)).heap[pb]? = some (.cells #[.int .u16 Gb.id, .bool Gb.rs, .int .i64 Gb.op, .bool Gb.aa, .bool Gb.tc, .bool Gb.rd, .bool Gb.ra, .bool Gb.ad, .bool Gb.cd, .int .i64 Gb.rc, .slice Yb.q.a Yb.q.n Yb.q.c, .slice Yb.l1.a Yb.l1.n Yb.l1.c, .slice Yb.l2.a Yb.l2.n Yb.l2.c, .slice Yb.l3.a Yb.l3.n Yb.l3.c] 26)) := ((hBN).block _ (box_lt HXb.out)).trans HXb.out
  replace HXc : Hid ((ul.alloc (.cells #[.int .u16 G.id, .bool G.rs, .int .i64 G.op, .bool G.aa, .bool G.tc, .bool G.rd, .bool G.ra, .bool G.ad, .bool G.cd, .int .i64 G.rc, .slice Yl.q.a Yl.q.n Yl.q.c, .slice Yl.l1.a Yl.l1.n Yl.l1.c, .slice Yl.l2.a Yl.l2.n Yl.l2.c, .slice Yl.l3.a Yl.l3.n Yl.l3.c] 26)).heap[pc]? = some (.cells #[.int .u16 Hc.id, .bool Hc.rs, .int .i64 Hc.op, .bool Hc.aa, .bool Hc.tc, .bool Hc.rd, .bool Hc.ra, .bool Hc.ad, .bool Hc.cd, .int .i64 Hc.rc, .slice Yc.q.a Yc.q.n Yc.q.c, .slice Yc.l1.a Yc.l1.n Yc.l1.c, .slice Yc.l2.a Yc.l2.n Yc.l2.c, .slice Yc.l3.a Yc.l3.n Yc.l3.c] 26)) := ((hBN).block _ (box_lt HXc.out)).trans HXc.out
  replace HXd : Hid ((ul.alloc (.cells #[.int .u16 G.id, .bool G.rs, .int .i64 G.op, .bool G.aa, .bool G.tc, .bool G.rd, .bool G.ra, .bool G.ad, .bool G.cd, .int .i64 G.rc, .slice Yl.q.a Yl.q.n Yl.q.c, .slice Yl.l1.a Yl.l1.n Yl.l1.c, .slice Yl.l2.a Yl.l2.n Yl.l2.c, .slice Yl.l3.a Yl.l3.n Yl.l3.c] 26)).heap[pd]? = some (.cells #[.int .u16 Hc.id, .bool Hc.rs, .int .i64 Hc.op, .bool Hc.aa, .bool Hc.tc, .bool Hc.rd, .bool Hc.ra, .bool Hc.ad, .bool Hc.cd, .int .i64 Hc.rc, .slice Yd.q.a Yd.q.n Yd.q.c, .slice Yd.l1.a Yd.l1.n Yd.l1.c, .slice Yd.l2.a Yd.l2.n Yd.l2.c, .slice Yd.l3.a Yd.l3.n Yd.l3.c] 26)) := ((hBN).block _ (box_lt HXd.out)).trans HXd.out
  replace HXn : Hid ((ul.alloc (.cells #[.int .u16 G.id, .bool G.rs, .int .i64 G.op, .bool G.aa, .bool G.tc, .bool G.rd, .bool G.ra, .bool G.ad, .bool G.cd, .int .i64 G.rc, .slice Yl.q.a Yl.q.n Yl.q.c, .slice Yl.l1.a Yl.l1.n Yl.l1.c, .slice Yl.l2.a Yl.l2.n Yl.l2.c, .slice Yl.l3.a Yl.l3.n Yl.l3.c] 26)).heap[pn]? = some (.cells #[.int .u16 Hn.id, .bool Hn.rs, .int .i64 Hn.op, .bool Hn.aa, .bool Hn.tc, .bool Hn.rd, .bool Hn.ra, .bool Hn.ad, .bool Hn.cd, .int .i64 Hn.rc, .slice Yn.q.a Yn.q.n Yn.q.c, .slice Yn.l1.a Yn.l1.n Yn.l1.c, .slice Yn.l2.a Yn.l2.n Yn.l2.c, .slice Yn.l3.a Yn.l3.n Yn.l3.c] 26)) := ((hBN).block _ (box_lt HXn.out)).trans HXn.out
  replace HXo : Hid ((ul.alloc (.cells #[.int .u16 G.id, .bool G.rs, .int .i64 G.op, .bool G.aa, .bool G.tc, .bool G.rd, .bool G.ra, .bool G.ad, .bool G.cd, .int .i64 G.rc, .slice Yl.q.a Yl.q.n Yl.q.c, .slice Yl.l1.a Yl.l1.n Yl.l1.c, .slice Yl.l2.a Yl.l2.n Yl.l2.c, .slice Yl.l3.a Yl.l3.n Yl.l3.c] 26)).heap[po]? = some (.cells #[.int .u16 Hn.id, .bool Hn.rs, .int .i64 Hn.op, .bool Hn.aa, .bool Hn.tc, .bool Hn.rd, .bool Hn.ra, .bool Hn.ad, .bool Hn.cd, .int .i64 Hn.rc, .slice Yo.q.a Yo.q.n Yo.q.c, .slice Yo.l1.a Yo.l1.n Yo.l1.c, .slice Yo.l2.a Yo.l2.n Yo.l2.c, .slice Yo.l3.a Yo.l3.n Yo.l3.c] 26)) := ((hBN).block _ (box_lt HXo.out)).trans HXo.out
  replace HMa := Lib.hid (HMa.out.below hBN)
  replace HMc := Lib.hid (HMc.out.below hBN)
  replace HMd := Lib.hid (HMd.out.below hBN)
  replace HMn := Lib.hid (HMn.out.below hBN)
  replace HMo := Lib.hid (HMo.out.below hBN)
  have HXl : Hid ((ul.alloc (.cells #[.int .u16 G.id, .bool G.rs, .int .i64 G.op, .bool G.aa, .bool G.tc, .bool G.rd, .bool G.ra, .bool G.ad, .bool G.cd, .int .i64 G.rc, .slice Yl.q.a Yl.q.n Yl.q.c, .slice Yl.l1.a Yl.l1.n Yl.l1.c, .slice Yl.l2.a Yl.l2.n Yl.l2.c, .slice Yl.l3.a Yl.l3.n Yl.l3.c] 26)).heap[ul.heap.size]? = some (.cells #[.int .u16 G.id, .bool G.rs, .int .i64 G.op, .bool G.aa, .bool G.tc, .bool G.rd, .bool G.ra, .bool G.ad, .bool G.cd, .int .i64 G.rc, .slice Yl.q.a Yl.q.n Yl.q.c, .slice Yl.l1.a Yl.l1.n Yl.l1.c, .slice Yl.l2.a Yl.l2.n Yl.l2.c, .slice Yl.l3.a Yl.l3.n Yl.l3.c] 26)) := heap_alloc_new _ _
  replace HB : Hid (Below w.heap.size w (ul.alloc (.cells #[.int .u16 G.id, .bool G.rs, .int .i64 G.op, .bool G.aa, .bool G.tc, .bool G.rd, .bool G.ra, .bool G.ad, .bool G.cd, .int .i64 G.rc, .slice Yl.q.a Yl.q.n Yl.q.c, .slice Yl.l1.a Yl.l1.n Yl.l1.c, .slice Yl.l2.a Yl.l2.n Yl.l2.c, .slice Yl.l3.a Yl.l3.n Yl.l3.c] 26))) := HB.out.trans (hBN.mono HB.out.size)
  clear H4 hN hBN HMM
  go_upto_region 9 with (fail)
  generalize ul.alloc (.cells #[.int .u16 G.id, .bool G.rs, .int .i64 G.op, .bool G.aa, .bool G.tc, .bool G.rd, .bool G.ra, .bool G.ad, .bool G.cd, .int .i64 G.rc, .slice Yl.q.a Yl.q.n Yl.q.c, .slice Yl.l1.a Yl.l1.n Yl.l1.c, .slice Yl.l2.a Yl.l2.n Yl.l2.c, .slice Yl.l3.a Yl.l3.n Yl.l3.c] 26) = Wl at *
  obtain ⟨pl, hp⟩ : ∃ z, z = ul.heap.size := ⟨_, rfl⟩
  rw [← hp] at HXl
  simp only [← hp]
  clear hp
  clear K16
  have nb3 : Hid (Yb.l3.n = 0 ∧ Gb.tc = false) := ⟨HMb.out.l3.len.symm.trans t83.out.2.1, by rw [← HMb.out.h]; exact t83.out.2.2⟩
  have KS : ∀ W, Below Wl.heap.size Wl W → ((W.cell? ⟨pa, 0, none⟩ = some (.int .u16 H0.id) ∧ W.cell? ⟨pa, 1, none⟩ = some (.bool H0.rs) ∧ W.cell? ⟨pa, 2, none⟩ = some (.int .i64 H0.op) ∧ W.cell? ⟨pa, 3, none⟩ = some (.bool H0.aa) ∧ W.cell? ⟨pa, 4, none⟩ = some (.bool H0.tc) ∧ W.cell? ⟨pa, 5, none⟩ = some (.bool H0.rd) ∧ W.cell? ⟨pa, 6, none⟩ = some (.bool H0.ra) ∧ W.cell? ⟨pa, 7, none⟩ = some (.bool H0.ad) ∧ W.cell? ⟨pa, 8, none⟩ = some (.bool H0.cd) ∧ W.cell? ⟨pa, 9, none⟩ = some (.int .i64 H0.rc) ∧ W.cell? ⟨pa, 10, none⟩ = some (.slice Ya.q.a Ya.q.n Ya.q.c) ∧ W.cell? ⟨pa, 11, none⟩ = some (.slice Ya.l1.a Ya.l1.n Ya.l1.c) ∧ W.cell? ⟨pa, 12, none⟩ = some (.slice Ya.l2.a Ya.l2.n Ya.l2.c) ∧ W.cell? ⟨pa, 13, none⟩ = some (.slice Ya.l3.a Ya.l3.n Ya.l3.c)) ∧ (W.cell? ⟨pb, 0, none⟩ = some (.int .u16 Gb.id) ∧ W.cell? ⟨pb, 1, none⟩ = some (.bool Gb.rs) ∧ W.cell? ⟨pb, 2, none⟩ = some (.int .i64 Gb.op) ∧ W.cell? ⟨pb, 3, none⟩ = some (.bool Gb.aa) ∧ W.cell? ⟨pb, 4, none⟩ = some (.bool Gb.tc) ∧ W.cell? ⟨pb, 5, none⟩ = some (.bool Gb.rd) ∧ W.cell? ⟨pb, 6, none⟩ = some (.bool Gb.ra) ∧ W.cell? ⟨pb, 7, none⟩ = some (.bool Gb.ad) ∧ W.cell? ⟨pb, 8, none⟩ = some (.bool Gb.cd) ∧ W.cell? ⟨pb, 9, none⟩ = some (.int .i64 Gb.rc) ∧ W.cell? ⟨pb, 10, none⟩ = some (.slice Yb.q.a Yb.q.n Yb.q.c) ∧ W.cell? ⟨pb, 11, none⟩ = some (.slice Yb.l1.a Yb.l1.n Yb.l1.c) ∧ W.cell? ⟨pb, 12, none⟩ = some (.slice Yb.l2.a Yb.l2.n Yb.l2.c) ∧ W.cell? ⟨pb, 13, none⟩ = some (.slice Yb.l3.a Yb.l3.n Yb.l3.c))) := fun W hW => by
    have m1 := (hW.block pa (box_lt HXa.out)).trans HXa.out
    have m2 := (hW.block pb (box_lt HXb.out)).trans HXb.out
    refine ⟨?_, ?_⟩
    · have mm := m1
      exact ⟨box_cell mm 0 _ rfl, box_cell mm 1 _ rfl, box_cell mm 2 _ rfl, box_cell mm 3 _ rfl, box_cell mm 4 _ rfl, box_cell mm 5 _ rfl, box_cell mm 6 _ rfl, box_cell mm 7 _ rfl, box_cell mm 8 _ rfl, box_cell mm 9 _ rfl, box_cell mm 10 _ rfl, box_cell mm 11 _ rfl, box_cell mm 12 _ rfl, box_cell mm 13 _ rfl⟩
    · have mm := m2
      exact ⟨box_cell mm 0 _ rfl, box_cell mm 1 _ rfl, box_cell mm 2 _ rfl, box_cell mm 3 _ rfl, box_cell mm 4 _ rfl, box_cell mm 5 _ rfl, box_cell mm 6 _ rfl, box_cell mm 7 _ rfl, box_cell mm 8 _ rfl, box_cell mm 9 _ rfl, box_cell mm 10 _ rfl, box_cell mm 11 _ rfl, box_cell mm 12 _ rfl, box_cell mm 13 _ rfl⟩
  rw [nb3.out.1, nb3.out.2] at KS
  have la := box_lt HXa.out
  have lb := box_lt HXb.out
  go_region_held3 (fun W => ((W.cell? ⟨pa, 0, none⟩ = some (.int .u16 H0.id) ∧ W.cell? ⟨pa, 1, none⟩ = some (.bool H0.rs) ∧ W.cell? ⟨pa, 2, none⟩ = some (.int .i64 H0.op) ∧ W.cell? ⟨pa, 3, none⟩ = some (.bool H0.aa) ∧ W.cell? ⟨pa, 4, none⟩ = some (.bool H0.tc) ∧ W.cell? ⟨pa, 5, none⟩ = some (.bool H0.rd) ∧ W.cell? ⟨pa, 6, none⟩ = some (.bool H0.ra) ∧ W.cell? ⟨pa, 7, none⟩ = some (.bool H0.ad) ∧ W.cell? ⟨pa, 8, none⟩ = some (.bool H0.cd) ∧ W.cell? ⟨pa, 9, none⟩ = some (.int .i64 H0.rc) ∧ W.cell? ⟨pa, 10, none⟩ = some (.slice Ya.q.a Ya.q.n Ya.q.c) ∧ W.cell? ⟨pa, 11, none⟩ = some (.slice Ya.l1.a Ya.l1.n Ya.l1.c) ∧ W.cell? ⟨pa, 12, none⟩ = some (.slice Ya.l2.a Ya.l2.n Ya.l2.c) ∧ W.cell? ⟨pa, 13, none⟩ = some (.slice Ya.l3.a Ya.l3.n Ya.l3.c)) ∧ (W.cell? ⟨pb, 0, none⟩ = some (.int .u16 Gb.id) ∧ W.cell? ⟨pb, 1, none⟩ = some (.bool Gb.rs) ∧ W.cell? ⟨pb, 2, none⟩ = some (.int .i64 Gb.op) ∧ W.cell? ⟨pb, 3, none⟩ = some (.bool Gb.aa) ∧ W.cell? ⟨pb, 4, none⟩ = some (.bool false) ∧ W.cell? ⟨pb, 5, none⟩ = some (.bool Gb.rd) ∧ W.cell? ⟨pb, 6, none⟩ = some (.bool Gb.ra) ∧ W.cell? ⟨pb, 7, none⟩ = some (.bool Gb.ad) ∧ W.cell? ⟨pb, 8, none⟩ = some (.bool Gb.cd) ∧ W.cell? ⟨pb, 9, none⟩ = some (.int .i64 Gb.rc) ∧ W.cell? ⟨pb, 10, none⟩ = some (.slice Yb.q.a Yb.q.n Yb.q.c) ∧ W.cell? ⟨pb, 11, none⟩ = some (.slice Yb.l1.a Yb.l1.n Yb.l1.c) ∧ W.cell? ⟨pb, 12, none⟩ = some (.slice Yb.l2.a Yb.l2.n Yb.l2.c) ∧ W.cell? ⟨pb, 13, none⟩ = some (.slice Yb.l3.a 0 Yb.l3.c)))) (first | exact KS _ HB7.out | exact KS _ HB6.out | exact KS _ (Below.refl Wl.heap.size Wl).drew | exact KS _ (Below.refl Wl.heap.size Wl)) (first
    | (go_simp; go_at_call 20; have hb := HB6.out; refine Calls.mono (same_msg H0 Ya x6 M _ (HMa.out.below hb) H6.out.1) ?_; rintro e w7 ⟨rfl, H7⟩; have HB7 : Hid (Below Wl.heap.size Wl w7) := hb.trans (H7.out.mono hb.size))
    | (go_simp; go_at_call 26; refine Calls.mono (K26 _).out ?_; rintro e w6 ⟨x6, rfl, H6⟩; have HB6 : Hid (Below Wl.heap.size Wl w6) := (Below.refl Wl.heap.size Wl).drew.trans H6.out.2)
    | fail)
  rename_i hheld
  clear hheld KS la lb HMa HMb HXa HXb H6 H7 HB6
  replace HXc : Hid (w7.heap[pc]? = some (.cells #[.int .u16 Hc.id, .bool Hc.rs, .int .i64 Hc.op, .bool Hc.aa, .bool Hc.tc, .bool Hc.rd, .bool Hc.ra, .bool Hc.ad, .bool Hc.cd, .int .i64 Hc.rc, .slice Yc.q.a Yc.q.n Yc.q.c, .slice Yc.l1.a Yc.l1.n Yc.l1.c, .slice Yc.l2.a Yc.l2.n Yc.l2.c, .slice Yc.l3.a Yc.l3.n Yc.l3.c] 26)) := (HB7.out.block _ (box_lt HXc.out)).trans HXc.out
  replace HMc := Lib.hid (HMc.out.below HB7.out)
  replace HXd : Hid (w7.heap[pd]? = some (.cells #[.int .u16 Hc.id, .bool Hc.rs, .int .i64 Hc.op, .bool Hc.aa, .bool Hc.tc, .bool Hc.rd, .bool Hc.ra, .bool Hc.ad, .bool Hc.cd, .int .i64 Hc.rc, .slice Yd.q.a Yd.q.n Yd.q.c, .slice Yd.l1.a Yd.l1.n Yd.l1.c, .slice Yd.l2.a Yd.l2.n Yd.l2.c, .slice Yd.l3.a Yd.l3.n Yd.l3.c] 26)) := (HB7.out.block _ (box_lt HXd.out)).trans HXd.out
  replace HMd := Lib.hid (HMd.out.below HB7.out)
  replace HXn : Hid (w7.heap[pn]? = some (.cells #[.int .u16 Hn.id, .bool Hn.rs, .int .i64 Hn.op, .bool Hn.aa, .bool Hn.tc, .bool Hn.rd, .bool Hn.ra, .bool Hn.ad, .bool Hn.cd, .int .i64 Hn.rc, .slice Yn.q.a Yn.q.n Yn.q.c, .slice Yn.l1.a Yn.l1.n Yn.l1.c, .slice Yn.l2.a Yn.l2.n Yn.l2.c, .slice Yn.l3.a Yn.l3.n Yn.l3.c] 26)) := (HB7.out.block _ (box_lt HXn.out)).trans HXn.out
  replace HMn := Lib.hid (HMn.out.below HB7.out)
  replace HXo : Hid (w7.heap[po]? = some (.cells #[.int .u16 Hn.id, .bool Hn.rs, .int .i64 Hn.op, .bool Hn.aa, .bool Hn.tc, .bool Hn.rd, .bool Hn.ra, .bool Hn.ad, .bool Hn.cd, .int .i64 Hn.rc, .slice Yo.q.a Yo.q.n Yo.q.c, .slice Yo.l1.a Yo.l1.n Yo.l1.c, .slice Yo.l2.a Yo.l2.n Yo.l2.c, .slice Yo.l3.a Yo.l3.n Yo.l3.c] 26)) := (HB7.out.block _ (box_lt HXo.out)).trans HXo.out
  replace HMo := Lib.hid (HMo.out.below HB7.out)
  replace HB : Hid (Below w.heap.size w w7) := HB.out.trans (HB7.out.mono HB.out.size)
  clear HB7 HXl
  have N1 : Hid (Yc.l1.n = 2 ∧ Yc.l2.n = 0 ∧ Hc.tc = true) := ⟨HMc.out.l1.len.symm.trans t66.out.2.1, HMc.out.l2.len.symm.trans t66.out.2.2.1, by rw [HHc.out]; exact t66.out.2.2.2⟩
  have c0 := box_cell HXc.out 0 _ rfl
  have c1 := box_cell HXc.out 1 _ rfl
  have c2 := box_cell HXc.out 2 _ rfl
  have c3 := box_cell HXc.out 3 _ rfl
  have c4 := box_cell HXc.out 4 _ rfl
  have c5 := box_cell HXc.out 5 _ rfl
  have c6 := box_cell HXc.out 6 _ rfl
  have c7 := box_cell HXc.out 7 _ rfl
  have c8 := box_cell HXc.out 8 _ rfl
  have c9 := box_cell HXc.out 9 _ rfl
  have c10 := box_cell HXc.out 10 _ rfl
  have c11 := box_cell HXc.out 11 _ rfl
  have c12 := box_cell HXc.out 12 _ rfl
  have c13 := box_cell HXc.out 13 _ rfl
  have d0 := box_cell HXd.out 0 _ rfl
  have d1 := box_cell HXd.out 1 _ rfl
  have d2 := box_cell HXd.out 2 _ rfl
  have d3 := box_cell HXd.out 3 _ rfl
  have d4 := box_cell HXd.out 4 _ rfl
  have d5 := box_cell HXd.out 5 _ rfl
  have d6 := box_cell HXd.out 6 _ rfl
  have d7 := box_cell HXd.out 7 _ rfl
  have d8 := box_cell HXd.out 8 _ rfl
  have d9 := box_cell HXd.out 9 _ rfl
  have d10 := box_cell HXd.out 10 _ rfl
  have d11 := box_cell HXd.out 11 _ rfl
  have d12 := box_cell HXd.out 12 _ rfl
  have d13 := box_cell HXd.out 13 _ rfl
  have lc := box_lt HXc.out
  have ld := box_lt HXd.out
  obtain ⟨Tc, hTc⟩ : ∃ z, z = Hc.tc := ⟨_, rfl⟩
  rw [N1.out.1] at c11
  rw [N1.out.2.1] at c12
  have ht1 := N1.out.2.2
  rw [ht1] at c4 d4
  have K20 := Lib.hid (same_msg Hc Yd Yc (cutF M 66) w7 HMd.out HMc.out)
  rw [N1.out.1, N1.out.2.1, ht1] at K20
  clear ht1 hTc
  go_wp2_with fail
  refine K20.out.mono ?_
  rintro e w8 ⟨rfl, H8⟩
  clear K20 c0 c1 c2 c3 c4 c5 c6 c7 c8 c9 c10 c11 c12 c13 d0 d1 d2 d3 d4 d5 d6 d7 d8 d9 d10 d11 d12 d13 lc ld
  replace HXn : Hid (w8.heap[pn]? = some (.cells #[.int .u16 Hn.id, .bool Hn.rs, .int .i64 Hn.op, .bool Hn.aa, .bool Hn.tc, .bool Hn.rd, .bool Hn.ra, .bool Hn.ad, .bool Hn.cd, .int .i64 Hn.rc, .slice Yn.q.a Yn.q.n Yn.q.c, .slice Yn.l1.a Yn.l1.n Yn.l1.c, .slice Yn.l2.a Yn.l2.n Yn.l2.c, .slice Yn.l3.a Yn.l3.n Yn.l3.c] 26)) := (H8.out.block _ (box_lt HXn.out)).trans HXn.out
  replace HMn := Lib.hid (HMn.out.below H8.out)
  replace HXo : Hid (w8.heap[po]? = some (.cells #[.int .u16 Hn.id, .bool Hn.rs, .int .i64 Hn.op, .bool Hn.aa, .bool Hn.tc, .bool Hn.rd, .bool Hn.ra, .bool Hn.ad, .bool Hn.cd, .int .i64 Hn.rc, .slice Yo.q.a Yo.q.n Yo.q.c, .slice Yo.l1.a Yo.l1.n Yo.l1.c, .slice Yo.l2.a Yo.l2.n Yo.l2.c, .slice Yo.l3.a Yo.l3.n Yo.l3.c] 26)) := (H8.out.block _ (box_lt HXo.out)).trans HXo.out
  replace HMo := Lib.hid (HMo.out.below H8.out)
  replace HB : Hid (Below w.heap.size w w8) := HB.out.trans (H8.out.mono HB.out.size)
  clear H8 HXc HXd HMc HMd
  go_wp2_with fail
  refine (K14 _).out.mono ?_
  rintro e w9 ⟨rfl, H9⟩
  replace HXn : Hid (w9.heap[pn]? = some (.cells #[.int .u16 Hn.id, .bool Hn.rs, .int .i64 Hn.op, .bool Hn.aa, .bool Hn.tc, .bool Hn.rd, .bool Hn.ra, .bool Hn.ad, .bool Hn.cd, .int .i64 Hn.rc, .slice Yn.q.a Yn.q.n Yn.q.c, .slice Yn.l1.a Yn.l1.n Yn.l1.c, .slice Yn.l2.a Yn.l2.n Yn.l2.c, .slice Yn.l3.a Yn.l3.n Yn.l3.c] 26)) := (H9.out.block _ (box_lt HXn.out)).trans HXn.out
  replace HMn := Lib.hid (HMn.out.below H9.out)
  replace HXo : Hid (w9.heap[po]? = some (.cells #[.int .u16 Hn.id, .bool Hn.rs, .int .i64 Hn.op, .bool Hn.aa, .bool Hn.tc, .bool Hn.rd, .bool Hn.ra, .bool Hn.ad, .bool Hn.cd, .int .i64 Hn.rc, .slice Yo.q.a Yo.q.n Yo.q.c, .slice Yo.l1.a Yo.l1.n Yo.l1.c, .slice Yo.l2.a Yo.l2.n Yo.l2.c, .slice Yo.l3.a Yo.l3.n Yo.l3.c] 26)) := (H9.out.block _ (box_lt HXo.out)).trans HXo.out
  replace HMo := Lib.hid (HMo.out.below H9.out)
  replace HB : Hid (Below w.heap.size w w9) := HB.out.trans (H9.out.mono HB.out.size)
  clear H9 K14
  have N2 : Hid (Yn.l1.n = 0 ∧ Hn.tc = true) := ⟨HMn.out.l1.len.symm.trans t50.out.2.1, by rw [HHn.out]; exact t50.out.2.2⟩
  have n0 := box_cell HXn.out 0 _ rfl
  have n1 := box_cell HXn.out 1 _ rfl
  have n2 := box_cell HXn.out 2 _ rfl
  have n3 := box_cell HXn.out 3 _ rfl
  have n4 := box_cell HXn.out 4 _ rfl
  have n5 := box_cell HXn.out 5 _ rfl
  have n6 := box_cell HXn.out 6 _ rfl
  have n7 := box_cell HXn.out 7 _ rfl
  have n8 := box_cell HXn.out 8 _ rfl
  have n9 := box_cell HXn.out 9 _ rfl
  have n10 := box_cell HXn.out 10 _ rfl
  have n11 := box_cell HXn.out 11 _ rfl
  have n12 := box_cell HXn.out 12 _ rfl
  have n13 := box_cell HXn.out 13 _ rfl
  have o0 := box_cell HXo.out 0 _ rfl
  have o1 := box_cell HXo.out 1 _ rfl
  have o2 := box_cell HXo.out 2 _ rfl
  have o3 := box_cell HXo.out 3 _ rfl
  have o4 := box_cell HXo.out 4 _ rfl
  have o5 := box_cell HXo.out 5 _ rfl
  have o6 := box_cell HXo.out 6 _ rfl
  have o7 := box_cell HXo.out 7 _ rfl
  have o8 := box_cell HXo.out 8 _ rfl
  have o9 := box_cell HXo.out 9 _ rfl
  have o10 := box_cell HXo.out 10 _ rfl
  have o11 := box_cell HXo.out 11 _ rfl
  have o12 := box_cell HXo.out 12 _ rfl
  have o13 := box_cell HXo.out 13 _ rfl
  have ln := box_lt HXn.out
  have lo := box_lt HXo.out
  rw [N2.out.1] at n11
  rw [N2.out.2] at n4 o4
  have K20 := Lib.hid (same_msg Hn Yn Yo (cutF M 50) w9 HMn.out HMo.out)
  rw [N2.out.1, N2.out.2] at K20
  go_wp2_with fail
  refine K20.out.mono ?_
  rintro e w10 ⟨rfl, H10⟩
  have HE : Hid (Below w.heap.size w w10) := HB.out.trans (H10.out.mono HB.out.size)
  go_wp2
  go_ret
  exact ⟨rfl, HE.out⟩
end Go.Proofs.YtkjnbgekaifdfaaGreat
namespace Go.Proofs.YtkjnbgekaifdfaaGreat
open Go.ChangeShapes Go.WideShapes Go.ChangeAt Go.RowKit Go.Maps
theorem knownPlain6 (w : World) : Calls Tryz.prog 6 #[] w fun e w' => e = .returned (.bool true) ∧ Below w.heap.size w w' := by
  refine (known6 w).mono ?_
  rintro e w' ⟨h1, h2⟩
  exact ⟨h1, h2.out⟩
end Go.Proofs.YtkjnbgekaifdfaaGreat
