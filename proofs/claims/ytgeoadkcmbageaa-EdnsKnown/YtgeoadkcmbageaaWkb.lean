/- Texts laid together, in parts: Ua Xd Ef Eg Eh Ei Ej El Em Eo Ep Eq. -/
import Derived.Test.YtgeoadkcmbageaaWka
import Derived.Lib.Hide
namespace Go.Proofs.Ytgeoadkcmbageaa
open Go.ChangeShapes Go.WideShapes Go.ChangeAt Go.RowKit
set_option linter.unusedVariables false
set_option linter.unusedSimpArgs false
/-- Numbers copied onto an empty list. -/
theorem st_cu0 {w : World} {ops : Array Oper} {o : Oper} {a : Act} {K : Act → World → Prop} {Q : Exit → Act → World → Prop} {E : Prop} (hgd : o.guard = none) (s x : Operand)
    (ho : o.op = .call { callee := .builtin .append, args := #[s, x], argTypes := #[32, 32] }) (B g : Nat) (hs : a.eval s = .slice (some ⟨g, 0, none⟩) 0 0) (hblk : BlkV w g 30 []) (hBg : B ≤ g) (a2 : Option Addr) (n2 c2 : Nat) (us : List Nat) (hx : a.eval x = .slice a2 n2 c2) (hr : URd w ⟨a2, n2, c2⟩ us) (hn : us.length ≤ 35184372088832) (hB : B ≤ w.heap.size)
    (h : ∀ (t' : Sl) w', Hid (UOwn B w' t' us ∧ w.grownBy w' (some g)) → K (a.put o.dst (.slice t'.a t'.n t'.c)) w') :
    if Region.wanted o (yielded ops a.tmps) = true then Oper.wp Try.prog o a w K Q else E := by
  have hl : us.length = n2 := hr.len
  refine step_append_row tyU hgd s x 32 ho B _ 0 [] hs (.inr ⟨g, rfl, hBg, hblk, Nat.le_refl _, Nat.zero_le _⟩) _ n2 (uv us) hx (src_of Try.underlying32 hr.rd (by rw [uv_len]; exact hl) (by intro v hv; obtain ⟨y, _, rfl⟩ := List.mem_map.1 hv; rfl)) (by omega) (by simp only [maxLen]; omega) hB ?_
  intro v' w' xs' q1 q2 q3 q4
  obtain ⟨ao', rfl, _⟩ := q1.out.shape
  refine h ⟨ao', 0 + n2, xs'.length⟩ w' ⟨⟨xs', ?_, ?_, hr.bd, q4.out _ ⟨0, rfl, by omega, by omega⟩ (by simp) (by intro v hv; obtain ⟨y, hy, rfl⟩ := List.mem_map.1 hv; exact ⟨y, rfl, by omega, by have := hr.bd y hy; omega⟩)⟩, q3.out⟩
  · rw [hl]; simpa using q1.out
  · have := q2.out
    rw [hl]
    simpa using this
/-- What the world before the numbers is like: an empty list at g; perhaps a box. -/
structure PreU (W1 W : World) (g : Nat) : Prop where
  bel : Below W1.heap.size W1 W
  low : W1.heap.size ≤ g
  blk : BlkV W g 30 []
theorem preU1 (W1 : World) : PreU W1 (W1.drew.alloc (.cells #[] 30)) W1.heap.size := ⟨al_below (Below.refl _ _).drew (Nat.le_refl _), Nat.le_refl _, heap_alloc_new W1.drew _⟩
theorem preU2 (W1 : World) (o : Obj) : PreU W1 ((W1.drew.alloc o).alloc (.cells #[] 30)) (W1.heap.size + 1) := by
  refine ⟨al_below (al_below (Below.refl _ _).drew (Nat.le_refl _)) (Nat.le_refl _), Nat.le_succ _, ?_⟩
  have h := heap_alloc_new (W1.drew.alloc o) (.cells #[] 30)
  rw [show (W1.drew.alloc o).heap.size = W1.heap.size + 1 by simp] at h
  exact h
theorem preU3 (W1 : World) (o : Obj) : PreU W1 ((W1.drew.alloc (.cells #[] 30)).alloc o) W1.heap.size := by
  refine ⟨al_below (al_below (Below.refl _ _).drew (Nat.le_refl _)) (Nat.le_refl _), Nat.le_refl _, ?_⟩
  have h : BlkV (W1.drew.alloc (.cells #[] 30)) W1.heap.size 30 [] := heap_alloc_new W1.drew _
  exact h.below (new_below _ _)
theorem PreU.after {W1 W W' : World} {g : Nat} (h : PreU W1 W g) (hg : W.grownBy W' (some g)) : Below W1.heap.size W1 W' := h.bel.grown hg h.bel.size (fun j e => by injection e with e; have := h.low; omega)
theorem boxU2 (W1 Wu : World) (hg : ((W1.drew.alloc (.cells #[.slice none 0 0, .slice none 0 0, .slice none 0 0, .slice none 0 0] 35)).alloc (.cells #[] 30)).grownBy Wu (some (W1.heap.size + 1))) : DBlk Wu W1.heap.size nilDA := by
  have h : DBlk (W1.drew.alloc (.cells #[.slice none 0 0, .slice none 0 0, .slice none 0 0, .slice none 0 0] 35)) W1.heap.size nilDA := dblk_new W1.drew
  have h2 := h.same ((new_below _ (.cells #[] 30)).block _ h.lt)
  exact h2.same (hg.block _ h2.lt (by simp))
theorem boxU3 (W1 Wu : World) (hg : ((W1.drew.alloc (.cells #[] 30)).alloc (.cells #[.slice none 0 0, .slice none 0 0, .slice none 0 0, .slice none 0 0] 35)).grownBy Wu (some W1.heap.size)) : DBlk Wu (W1.heap.size + 1) nilDA := by
  have h : DBlk ((W1.drew.alloc (.cells #[] 30)).alloc (.cells #[.slice none 0 0, .slice none 0 0, .slice none 0 0, .slice none 0 0] 35)) (W1.drew.alloc (.cells #[] 30)).heap.size nilDA := dblk_new _
  rw [show (W1.drew.alloc (.cells #[] 30)).heap.size = W1.heap.size + 1 by simp] at h
  exact h.same (hg.block _ h.lt (by simp))
set_option maxRecDepth 100000 in
set_option maxHeartbeats 8000000 in
theorem kcopy_any (x : DA) (d : Dat) (w : World) (h : DRd w x d) (hS : Wb d) :
    Calls Try.prog 35 #[.agg #[.slice x.p1.a x.p1.n x.p1.c, .slice x.p2.a x.p2.n x.p2.c, .slice x.p3.a x.p3.n x.p3.c, .slice x.p4.a x.p4.n x.p4.c]] w fun e w' => ∃ y : DA, e = .returned (.agg #[.slice y.p1.a y.p1.n y.p1.c, .slice y.p2.a y.p2.n y.p2.c, .slice y.p3.a y.p3.n y.p3.c, .slice y.p4.a y.p4.n y.p4.c]) ∧ Hid (DOwx w.heap.size w' y d ∧ Below w.heap.size w w') := by
  have hbx := new_below w (.cells #[.slice x.p1.a x.p1.n x.p1.c, .slice x.p2.a x.p2.n x.p2.c, .slice x.p3.a x.p3.n x.p3.c, .slice x.p4.a x.p4.n x.p4.c] 35)
  have HS : Hid (DBlk (w.alloc (.cells #[.slice x.p1.a x.p1.n x.p1.c, .slice x.p2.a x.p2.n x.p2.c, .slice x.p3.a x.p3.n x.p3.c, .slice x.p4.a x.p4.n x.p4.c] 35)) w.heap.size x ∧ DRd (w.alloc (.cells #[.slice x.p1.a x.p1.n x.p1.c, .slice x.p2.a x.p2.n x.p2.c, .slice x.p3.a x.p3.n x.p3.c, .slice x.p4.a x.p4.n x.p4.c] 35)) x d ∧ Below w.heap.size w (w.alloc (.cells #[.slice x.p1.a x.p1.n x.p1.c, .slice x.p2.a x.p2.n x.p2.c, .slice x.p3.a x.p3.n x.p3.c, .slice x.p4.a x.p4.n x.p4.c] 35))) := ⟨heap_alloc_new _ _, h.below hbx, hbx⟩
  have HB : Hid (Wb d) := hS
  have HZ0 : Hid ((w.alloc (.cells #[.slice x.p1.a x.p1.n x.p1.c, .slice x.p2.a x.p2.n x.p2.c, .slice x.p3.a x.p3.n x.p3.c, .slice x.p4.a x.p4.n x.p4.c] 35)).heap.size = w.heap.size + 1) := by show _ = _; simp
  have hn3 : d.ts.length = x.p3.n := h.h3.len
  have hn4 : d.raw.length = x.p4.n := h.h4.len
  have KT : Hid (∀ W B, TRd W x.p3 d.ts → B ≤ W.heap.size → Calls Try.prog 58 #[.slice x.p3.a x.p3.n x.p3.c] W fun e w' => ∃ tt : Sl, e = .returned (.slice tt.a tt.n tt.c) ∧ Hid (Owx1 B w' tt d.ts ∧ Below W.heap.size W w')) := fun W B hW hB => by
    refine (copyT_any x.p3.a x.p3.c x.p3.n d.ts 9223372036854775807 W hW.rd hW.len hW.z63 (by have := hS.tn; have := hW.len; omega)).mono ?_
    rintro e w' ⟨v, ys, rfl, H⟩
    obtain ⟨q1, q2, q3⟩ := H.out
    obtain ⟨ao, rfl, _⟩ := q1.shape
    exact ⟨⟨ao, _, _⟩, rfl, ⟨ys, q1.mono hB, q2⟩, q3⟩
  have KY : Hid (∀ W B, BRd W x.p4 d.raw → B ≤ W.heap.size → Calls Try.prog 33 #[.slice x.p4.a x.p4.n x.p4.c] W fun e w' => ∃ tb : Sl, e = .returned (.slice tb.a tb.n tb.c) ∧ Hid (BOwn B w' tb d.raw ∧ Below W.heap.size W w')) := fun W B hW hB => by
    have hK := copy_any x.p4.a x.p4.c d.raw W hW.rd hW.nil (by have := hS.r; omega)
    rw [hW.len] at hK
    refine hK.mono ?_
    rintro e w' ⟨v, ys, rfl, q1, q2, q3⟩
    obtain ⟨ao, rfl, _⟩ := q1.addr
    refine ⟨⟨ao, x.p4.n, ys.length⟩, rfl, ⟨ys, ?_, ?_⟩, q3⟩
    · rw [hW.len]; exact q1.mono hB
    · rw [hW.len]; exact q2
  clear h hbx
  obtain ⟨⟨a1, n1, k1⟩, ⟨a2, n2, k2⟩, ⟨a3, n3, k3⟩, ⟨a4, n4, k4⟩⟩ := x
  simp only at HS HZ0 KT KY hn3 hn4 ⊢
  go_enter Try.func35, Try.ntmps35
  go_upto_region 1 with fail
  generalize (w.alloc (.cells #[.slice a1 n1 k1, .slice a2 n2 k2, .slice a3 n3 k3, .slice a4 n4 k4] 35)) = W0 at *
  obtain ⟨b, hb⟩ : ∃ b, b = w.heap.size := ⟨_, rfl⟩
  rw [← hb] at HS HZ0 ⊢
  have Hb : Hid (b = w.heap.size) := hb
  clear hb
  have hz0 := HS.out.1.lt
  have HS1 : Hid (DBlk (W0.alloc (.cells #[.slice none 0 0, .slice none 0 0, .slice none 0 0, .slice none 0 0] 35)) b ⟨⟨a1, n1, k1⟩, ⟨a2, n2, k2⟩, ⟨a3, n3, k3⟩, ⟨a4, n4, k4⟩⟩ ∧ DBlk (W0.alloc (.cells #[.slice none 0 0, .slice none 0 0, .slice none 0 0, .slice none 0 0] 35)) (b + 1) nilDA ∧ DRd (W0.alloc (.cells #[.slice none 0 0, .slice none 0 0, .slice none 0 0, .slice none 0 0] 35)) ⟨⟨a1, n1, k1⟩, ⟨a2, n2, k2⟩, ⟨a3, n3, k3⟩, ⟨a4, n4, k4⟩⟩ d ∧ Below b w (W0.alloc (.cells #[.slice none 0 0, .slice none 0 0, .slice none 0 0, .slice none 0 0] 35)) ∧ (W0.alloc (.cells #[.slice none 0 0, .slice none 0 0, .slice none 0 0, .slice none 0 0] 35)).heap.size = b + 2) := by
    have hn := new_below W0 (.cells #[.slice none 0 0, .slice none 0 0, .slice none 0 0, .slice none 0 0] 35)
    have hD := dblk_new W0
    rw [HZ0.out] at hD
    exact ⟨HS.out.1.same (hn.block _ HS.out.1.lt), hD, HS.out.2.1.below hn, HS.out.2.2.trans (hn.mono (by omega)), by simp [HZ0.out]⟩
  clear HS HZ0 hz0
  generalize (W0.alloc (.cells #[.slice none 0 0, .slice none 0 0, .slice none 0 0, .slice none 0 0] 35)) = W1 at *
  have HK0 : Hid (DBlk W1.drew b ⟨⟨a1, n1, k1⟩, ⟨a2, n2, k2⟩, ⟨a3, n3, k3⟩, ⟨a4, n4, k4⟩⟩) := HS1.out.1
  have HD0 : Hid (DRd W1.drew ⟨⟨a1, n1, k1⟩, ⟨a2, n2, k2⟩, ⟨a3, n3, k3⟩, ⟨a4, n4, k4⟩⟩ d) := HS1.out.2.2.1.below (Below.refl _ _).drew
  have HB0 : Hid (Below W1.heap.size W1 W1.drew) := (Below.refl _ _).drew
  have c1 : W1.cell? ⟨b, 1, none⟩ = some (.slice a2 n2 k2) := HS1.out.1.box.2.1
  have c2 : W1.cell? ⟨b, 2, none⟩ = some (.slice a3 n3 k3) := HS1.out.1.box.2.2.1
  have c3 : W1.cell? ⟨b, 3, none⟩ = some (.slice a4 n4 k4) := HS1.out.1.box.2.2.2.1
  have hbl := HS1.out.1.lt
  go_cut [3] from 5 to 15 (fun s3 wx => ∃ (D : Nat) (tu tt tb : Sl), s3 = .pointer (some ⟨D, 0, none⟩) ∧ Hid (CqS W1 wx D tu tt tb d))
  case first =>
    have hb1 : ¬ b = W1.heap.size := by omega
    have hb2 : ¬ b = W1.heap.size + 1 := by omega
    go_region_held3 (fun W => W.cell? ⟨b, 1, none⟩ = some (.slice a2 n2 k2) ∧ W.cell? ⟨b, 2, none⟩ = some (.slice a3 n3 k3) ∧ W.cell? ⟨b, 3, none⟩ = some (.slice a4 n4 k4)) (exact ⟨by go_keep, by go_keep, by go_keep⟩) (first
      | (refine st_cu0 rfl _ _ rfl W1.heap.size _ rfl (by first | exact (preU1 W1).blk | exact (preU2 W1 _).blk | exact (preU3 W1 _).blk) (by first | exact (preU1 W1).low | exact (preU2 W1 (.cells #[] 30)).low) a2 n2 k2 d.us rfl (HS1.out.2.2.1.h2.below (by first | exact (preU1 W1).bel | exact (preU2 W1 _).bel | exact (preU3 W1 _).bel)) HB.out.un (by first | exact (preU1 W1).bel.size | exact (preU2 W1 _).bel.size | exact (preU3 W1 _).bel.size) ?_; intro tu Wu Hu; have HBu : Hid (Below W1.heap.size W1 Wu) := (by first | exact (preU1 W1).after Hu.out.2 | exact (preU2 W1 _).after Hu.out.2 | exact (preU3 W1 _).after Hu.out.2); have HKu : Hid (DBlk Wu b ⟨⟨a1, n1, k1⟩, ⟨a2, n2, k2⟩, ⟨a3, n3, k3⟩, ⟨a4, n4, k4⟩⟩) := HS1.out.1.same (HBu.out.block _ HS1.out.1.lt); have HDu : Hid (DRd Wu ⟨⟨a1, n1, k1⟩, ⟨a2, n2, k2⟩, ⟨a3, n3, k3⟩, ⟨a4, n4, k4⟩⟩ d) := HS1.out.2.2.1.below HBu.out; have e1 : Wu.cell? ⟨b, 1, none⟩ = some (.slice a2 n2 k2) := (HKu.out).box.2.1; have e2 : Wu.cell? ⟨b, 2, none⟩ = some (.slice a3 n3 k3) := (HKu.out).box.2.2.1; have e3 : Wu.cell? ⟨b, 3, none⟩ = some (.slice a4 n4 k4) := (HKu.out).box.2.2.2.1; have el : b < Wu.heap.size := (HKu.out).lt; (try (have hDu : Hid (DBlk Wu W1.heap.size nilDA) := boxU2 W1 Wu Hu.out.2)); (try (have hDu : Hid (DBlk Wu (W1.heap.size + 1) nilDA) := boxU3 W1 Wu Hu.out.2)); (try (have x0 := hDu.out.fz 0; have x1 := hDu.out.fz 1; have x2 := hDu.out.fz 2; have x3 := hDu.out.fz 3; have y0 := hDu.out.box.1; have y1 := hDu.out.box.2.1; have y2 := hDu.out.box.2.2.1; have y3 := hDu.out.box.2.2.2.1; (try simp only at y0 y1 y2 y3))))
      | (go_at_call 58; refine (KT.out _ W1.heap.size (by first | exact HDu.out.h3 | exact HDu.out.h3.below (new_below _ _)) (by first | exact HBu.out.size | exact (al_below HBu.out (Nat.le_refl _)).size)).mono ?_; rintro e Wt ⟨tt, rfl, Ht⟩; have HBt : Hid (Below W1.heap.size W1 Wt) := (by first | exact HBu.out.trans (Ht.out.2.mono HBu.out.size) | exact (al_below HBu.out (Nat.le_refl _)).trans (Ht.out.2.mono (al_below HBu.out (Nat.le_refl _)).size)); have HKt : Hid (DBlk Wt b ⟨⟨a1, n1, k1⟩, ⟨a2, n2, k2⟩, ⟨a3, n3, k3⟩, ⟨a4, n4, k4⟩⟩) := (by first | exact HKu.out.same (Ht.out.2.block _ HKu.out.lt) | exact (HKu.out.same ((new_below _ _).block _ HKu.out.lt)).same (Ht.out.2.block _ (Nat.lt_of_lt_of_le HKu.out.lt (new_below _ _).size))); have HDt : Hid (DRd Wt ⟨⟨a1, n1, k1⟩, ⟨a2, n2, k2⟩, ⟨a3, n3, k3⟩, ⟨a4, n4, k4⟩⟩ d) := (by first | exact HDu.out.below Ht.out.2 | exact (HDu.out.below (new_below _ _)).below Ht.out.2); have HUt : Hid (UOwn W1.heap.size Wt tu d.us) := (by first | exact (Hu.out.1).stays Ht.out.2 | exact ((Hu.out.1).stays (new_below _ _)).stays Ht.out.2); have f1 : Wt.cell? ⟨b, 1, none⟩ = some (.slice a2 n2 k2) := (HKt.out).box.2.1; have f2 : Wt.cell? ⟨b, 2, none⟩ = some (.slice a3 n3 k3) := (HKt.out).box.2.2.1; have f3 : Wt.cell? ⟨b, 3, none⟩ = some (.slice a4 n4 k4) := (HKt.out).box.2.2.2.1; have fl : b < Wt.heap.size := (HKt.out).lt; (try (have hDt : Hid (DBlk Wt Wu.heap.size nilDA) := (dblk_new Wu).same (Ht.out.2.block _ (dblk_new Wu).lt))); (try (have hDt := Lib.hid (hDu.out.same (Ht.out.2.block _ hDu.out.lt)))); (try (have x0 := hDt.out.fz 0; have x1 := hDt.out.fz 1; have x2 := hDt.out.fz 2; have x3 := hDt.out.fz 3; have y0 := hDt.out.box.1; have y1 := hDt.out.box.2.1; have y2 := hDt.out.box.2.2.1; have y3 := hDt.out.box.2.2.2.1; (try simp only at y0 y1 y2 y3))))
      | (go_at_call 33; refine (KY.out _ W1.heap.size (by first | exact HDt.out.h4 | exact HDt.out.h4.below (new_below _ _)) (by first | exact HBt.out.size | exact (al_below HBt.out (Nat.le_refl _)).size)).mono ?_; rintro e Wv ⟨tb, rfl, Hv⟩; have HBv : Hid (Below W1.heap.size W1 Wv) := (by first | exact HBt.out.trans (Hv.out.2.mono HBt.out.size) | exact (al_below HBt.out (Nat.le_refl _)).trans (Hv.out.2.mono (al_below HBt.out (Nat.le_refl _)).size)); have HKv : Hid (DBlk Wv b ⟨⟨a1, n1, k1⟩, ⟨a2, n2, k2⟩, ⟨a3, n3, k3⟩, ⟨a4, n4, k4⟩⟩) := (by first | exact HKt.out.same (Hv.out.2.block _ HKt.out.lt) | exact (HKt.out.same ((new_below _ _).block _ HKt.out.lt)).same (Hv.out.2.block _ (Nat.lt_of_lt_of_le HKt.out.lt (new_below _ _).size))); have HUv : Hid (UOwn W1.heap.size Wv tu d.us) := (by first | exact (HUt.out).stays Hv.out.2 | exact ((HUt.out).stays (new_below _ _)).stays Hv.out.2); have HTv : Hid (Owx1 W1.heap.size Wv tt d.ts) := (by first | exact (Ht.out.1).stays Hv.out.2 | exact ((Ht.out.1).stays (new_below _ _)).stays Hv.out.2); have g1 : Wv.cell? ⟨b, 1, none⟩ = some (.slice a2 n2 k2) := (HKv.out).box.2.1; have g2 : Wv.cell? ⟨b, 2, none⟩ = some (.slice a3 n3 k3) := (HKv.out).box.2.2.1; have g3 : Wv.cell? ⟨b, 3, none⟩ = some (.slice a4 n4 k4) := (HKv.out).box.2.2.2.1; have gl : b < Wv.heap.size := (HKv.out).lt; (try (have hDv : Hid (DBlk Wv Wt.heap.size nilDA) := (dblk_new Wt).same (Hv.out.2.block _ (dblk_new Wt).lt))); (try (have hDv := Lib.hid (hDt.out.same (Hv.out.2.block _ hDt.out.lt)))); (try (have x0 := hDv.out.fz 0; have x1 := hDv.out.fz 1; have x2 := hDv.out.fz 2; have x3 := hDv.out.fz 3; have y0 := hDv.out.box.1; have y1 := hDv.out.box.2.1; have y2 := hDv.out.box.2.2.1; have y3 := hDv.out.box.2.2.2.1; (try simp only at y0 y1 y2 y3))); have hbD : ¬ b = Wt.heap.size := (by omega); have hbD' : ¬ Wt.heap.size = b := (by omega); have hbD2 : ¬ b = Wu.heap.size := (by omega); have hbD2' : ¬ Wu.heap.size = b := (by omega); have hbD3 : ¬ b = W1.heap.size := (by omega); have hbD3' : ¬ W1.heap.size = b := (by omega); have hbD4 : ¬ b = W1.heap.size + 1 := (by omega); have hbD4' : ¬ W1.heap.size + 1 = b := (by omega)))
    all_goals
      go_wp2_with fail
      go_meet
      first
        | exact ⟨_, tu, tt, tb, rfl, cqs_new HUv.out HTv.out Hv.out.1 HBv.out⟩
        | exact ⟨_, tu, tt, tb, rfl, cqs_set HUv.out HTv.out Hv.out.1 HBv.out hDv.out (by first | exact HBt.out.size | exact HBu.out.size | exact Nat.le_refl _ | exact Nat.le_succ _)⟩
  case rest =>
    obtain ⟨D, tu, tt, tb, rfl, HC⟩ := hcut
    clear HB0 HD0 HK0 c1 c2 c3 hbl
    have HCN : Hid (∃ tn : Sl, CqN W1 wc D ⟨tn, tu, tt, tb⟩ ⟨d.ns.take 0, d.us, d.ts, d.raw⟩) := ⟨_, HC.out.start⟩
    have c0 : wc.cell? ⟨b, 0, none⟩ = some (.slice a1 n1 k1) := (HS1.out.1.same (HC.out.bel.block b HS1.out.1.lt)).box.1
    have hn1 : d.ns.length = n1 := HS1.out.2.2.1.h1.len
    have HLN : Hid (d.ns.length = n1) := hn1
    have hn1b : n1 ≤ 5860000000000 := by rw [← hn1]; exact HB.out.nn
    clear HC hn1 HB KT KY hn3 hn4
    go_wp2_with fail
    clear c0
    go_loopw [4] (fun v wr => ∃ k : Nat, k ≤ n1 ∧ v = .int .i64 (k : Int) ∧ Hid (∃ tn : Sl, CqN W1 wr D ⟨tn, tu, tt, tb⟩ ⟨d.ns.take k, d.us, d.ts, d.raw⟩)) (fun v _ => n1 - (intOf v).toNat)
    case atStart => exact ⟨0, Nat.zero_le _, rfl, HCN⟩
    case round =>
      clear HCN
      obtain ⟨k, hk, rfl, HG⟩ := hrel
      obtain ⟨tn, HGn⟩ : ∃ tn : Sl, Hid (CqN W1 wr D ⟨tn, tu, tt, tb⟩ ⟨d.ns.take k, d.us, d.ts, d.raw⟩) := HG.out
      clear HG
      have HG : Hid (CqN W1 wr D ⟨tn, tu, tt, tb⟩ ⟨d.ns.take k, d.us, d.ts, d.raw⟩) := HGn.out
      clear HGn
      by_cases hlt : k < n1
      · have hlt' : (k : Int) < (n1 : Int) := by omega
        have hki : k < d.ns.length := by rw [HLN.out]; exact hlt
        obtain ⟨b1, o1, ha, hbl1, y, hy, hyr⟩ := (HS1.out.2.2.1.h1.below HG.out.bel).at k hki
        simp only at ha
        subst ha
        have KCP : Hid (Calls Try.prog 34 #[.slice y.a y.n y.c] wr.drew (CopyPost d.ns[k] 9223372036854775807 wr.drew)) := copyN_any y.a y.c y.n d.ns[k] 9223372036854775807 wr.drew (hyr.rd.below (Below.refl _ _).drew) hyr.len hyr.z63 (by have := hS.nl _ (List.getElem_mem hki); have := hyr.len; omega)
        have hb1s : W1.heap.size ≤ wr.heap.size := HG.out.bel.size
        have KC2 : Hid (Calls Try.prog 34 #[.slice y.a y.n y.c] wr.drew fun e w' => ∃ s5 : Sl, e = .returned (.slice s5.a s5.n s5.c) ∧ Hid (Owx1 W1.heap.size w' s5 d.ns[k] ∧ Below wr.drew.heap.size wr.drew w')) := by
          refine Calls.mono KCP.out ?_
          rintro e w' ⟨v, ys, rfl, H⟩
          obtain ⟨q1, q2, q3⟩ := H.out
          obtain ⟨ao, rfl, _⟩ := q1.shape
          exact ⟨⟨ao, _, _⟩, rfl, ⟨ys, q1.mono hb1s, q2⟩, q3⟩
        clear KCP
        have HTK : Hid (d.ns.take (k + 1) = d.ns.take k ++ [d.ns[k]]) := List.take_succ_eq_append_getElem hki
        have HKL : Hid ((d.ns.take k).length ≤ 5860000000000) := by show _ ≤ _; rw [List.length_take]; omega
        clear hyr
        generalize d.ns[k] = nm at *
        generalize d.ns.take k = nk at *
        have c0 : wr.cell? ⟨D, 0, none⟩ = some (.slice tn.a tn.n tn.c) := HG.out.blk.box.1
        have cb0 : wr.cell? ⟨b, 0, none⟩ = some (.slice (some ⟨b1, o1, none⟩) n1 k1) := (HS1.out.1.same (HG.out.bel.block b HS1.out.1.lt)).box.1
        have z0 := HG.out.blk.fz 0
        have hDl := HG.out.blk.lt
        go_wp2_with fail
        go_region_law (first
          | (refine sq_n1 rfl _ _ rfl W1.heap.size tn nk rfl (HG5.out.go (new_below _ _)).own.1 ⟨W5.heap.size, 0, none⟩ rfl s5 nm (one_n W5 s5) (H5.out.1.stays (new_below _ _)) HKL.out (HG5.out.go (new_below _ _)).bel.size ?_; intro t7 W7 H7 HX7; have HD7 : Hid (DBlk W7 D ⟨tn, tu, tt, tb⟩) := (HG5.out.go (new_below _ _)).blk.offTy HX7.out; have f0 : W7.cell? ⟨D, 0, none⟩ = some (.slice tn.a tn.n tn.c) := HD7.out.box.1; have fz0 := HD7.out.fz 0; have fDl := HD7.out.lt)
          | (go_simp; go_at_call 34; refine KC2.out.mono ?_; rintro e W5 ⟨s5, rfl, H5⟩; have HG5 : Hid (CqN W1 W5 D ⟨tn, tu, tt, tb⟩ ⟨nk, d.us, d.ts, d.raw⟩) := (HG.out.go (Below.refl _ _).drew).go H5.out.2; have e0 : W5.cell? ⟨D, 0, none⟩ = some (.slice tn.a tn.n tn.c) := HG5.out.blk.box.1; have ez := HG5.out.blk.fz 0; have eDl := HG5.out.blk.lt))
        all_goals
          have HG8 : Hid (CqN W1 (W7.setCell ⟨D, 0, none⟩ (.slice t7.a t7.n t7.c)) D ⟨t7, tu, tt, tb⟩ ⟨nk ++ [nm], d.us, d.ts, d.raw⟩) := (HG5.out.go (new_below _ _)).step H7.out HX7.out
          rw [← HTK.out] at HG8
          go_wp2_with fail
          exact ⟨⟨k + 1, by omega, by go_num, ⟨t7, HG8.out⟩⟩, by simp [intOf]; omega⟩
      · have hge : ¬ (k : Int) < (n1 : Int) := by omega
        have hkn : k = n1 := by omega
        have HGE : Hid (CqN W1 wr D ⟨tn, tu, tt, tb⟩ d) := by
          have := HG.out
          rw [List.take_of_length_le (by rw [HLN.out]; omega)] at this
          exact this
        clear HG
        have cb0 : wr.cell? ⟨b, 0, none⟩ = some (.slice a1 n1 k1) := (HS1.out.1.same (HGE.out.bel.block b HS1.out.1.lt)).box.1
        have d0 : wr.cell? ⟨D, 0, none⟩ = some (.slice tn.a tn.n tn.c) := HGE.out.blk.box.1
        have d1 : wr.cell? ⟨D, 1, none⟩ = some (.slice tu.a tu.n tu.c) := HGE.out.blk.box.2.1
        have d2 : wr.cell? ⟨D, 2, none⟩ = some (.slice tt.a tt.n tt.c) := HGE.out.blk.box.2.2.1
        have d3 : wr.cell? ⟨D, 3, none⟩ = some (.slice tb.a tb.n tb.c) := HGE.out.blk.box.2.2.2.1
        have HRB : Hid (DBlk wr (b + 1) nilDA) := HS1.out.2.1.same (HGE.out.bel.block _ HS1.out.2.1.lt)
        have r0 : wr.cell? ⟨b + 1, 0, none⟩ = some (.slice none 0 0) := HRB.out.box.1
        have r1 : wr.cell? ⟨b + 1, 1, none⟩ = some (.slice none 0 0) := HRB.out.box.2.1
        have r2 : wr.cell? ⟨b + 1, 2, none⟩ = some (.slice none 0 0) := HRB.out.box.2.2.1
        have r3 : wr.cell? ⟨b + 1, 3, none⟩ = some (.slice none 0 0) := HRB.out.box.2.2.2.1
        have z0 := HRB.out.fz 0
        have z1 := HRB.out.fz 1
        have z2 := HRB.out.fz 2
        have z3 := HRB.out.fz 3
        have hbl := HRB.out.lt
        have hDl := HGE.out.blk.lt
        go_wp2_with fail
        have hW2 : W1.heap.size = b + 2 := HS1.out.2.2.2.2
        have HBW : Below w.heap.size w wr := by
          have h1 := HS1.out.2.2.2.1
          have h2 := Hb.out
          rw [h2] at h1
          exact h1.trans (HGE.out.bel.mono h1.size)
        have HX := ret4 HRB.out HBW (by have := Hb.out; omega) ⟨tn, tu, tt, tb⟩
        have HY : DOwx w.heap.size (set4 wr (b + 1) ⟨tn, tu, tt, tb⟩) ⟨tn, tu, tt, tb⟩ d := HGE.out.own.ret4 (by omega) (by have := Hb.out; omega)
        have k0 := HX.1.box.1
        have k1' := HX.1.box.2.1
        have k2' := HX.1.box.2.2.1
        have k3' := HX.1.box.2.2.2.1
        simp only [set4] at k0 k1' k2' k3'
        refine bodyPost_ret (v := .agg #[.slice tn.a tn.n tn.c, .slice tu.a tu.n tu.c, .slice tt.a tt.n tt.c, .slice tb.a tb.n tb.c]) ?_ rfl ⟨⟨tn, tu, tt, tb⟩, rfl, HY, HX.2⟩
        simp [results, Try.results35, go_sem, k0, k1', k2', k3']
end Go.Proofs.Ytgeoadkcmbageaa
namespace Go.Proofs.Ytgeoadkcmbageaa
open Go.ChangeShapes Go.WideShapes Go.ChangeAt Go.RowKit
set_option linter.unusedVariables false
set_option linter.unusedSimpArgs false
theorem put8 {w : World} {g : Nat} {v0 v1 v2 v3 v4 v5 v6 v7 : Value} {t : TypeId} (h : w.heap[g]? = some (.cells #[v0, v1, v2, v3, v4, v5, v6, v7] t)) (x0 x1 x2 x3 x4 x5 x6 x7 : Value) : ((((((((w.setCell ⟨g, 0, none⟩ x0).setCell ⟨g, 1, none⟩ x1).setCell ⟨g, 2, none⟩ x2).setCell ⟨g, 3, none⟩ x3).setCell ⟨g, 4, none⟩ x4).setCell ⟨g, 5, none⟩ x5).setCell ⟨g, 6, none⟩ x6).setCell ⟨g, 7, none⟩ x7).heap[g]? = some (.cells #[x0, x1, x2, x3, x4, x5, x6, x7] t) :=
  by
  have h0 : (w.setCell ⟨g, 0, none⟩ x0).heap[g]? = some (.cells #[x0, v1, v2, v3, v4, v5, v6, v7] t) := heap_set h 0 x0
  have h1 : ((w.setCell ⟨g, 0, none⟩ x0).setCell ⟨g, 1, none⟩ x1).heap[g]? = some (.cells #[x0, x1, v2, v3, v4, v5, v6, v7] t) := heap_set h0 1 x1
  have h2 : (((w.setCell ⟨g, 0, none⟩ x0).setCell ⟨g, 1, none⟩ x1).setCell ⟨g, 2, none⟩ x2).heap[g]? = some (.cells #[x0, x1, x2, v3, v4, v5, v6, v7] t) := heap_set h1 2 x2
  have h3 : ((((w.setCell ⟨g, 0, none⟩ x0).setCell ⟨g, 1, none⟩ x1).setCell ⟨g, 2, none⟩ x2).setCell ⟨g, 3, none⟩ x3).heap[g]? = some (.cells #[x0, x1, x2, x3, v4, v5, v6, v7] t) := heap_set h2 3 x3
  have h4 : (((((w.setCell ⟨g, 0, none⟩ x0).setCell ⟨g, 1, none⟩ x1).setCell ⟨g, 2, none⟩ x2).setCell ⟨g, 3, none⟩ x3).setCell ⟨g, 4, none⟩ x4).heap[g]? = some (.cells #[x0, x1, x2, x3, x4, v5, v6, v7] t) := heap_set h3 4 x4
  have h5 : ((((((w.setCell ⟨g, 0, none⟩ x0).setCell ⟨g, 1, none⟩ x1).setCell ⟨g, 2, none⟩ x2).setCell ⟨g, 3, none⟩ x3).setCell ⟨g, 4, none⟩ x4).setCell ⟨g, 5, none⟩ x5).heap[g]? = some (.cells #[x0, x1, x2, x3, x4, x5, v6, v7] t) := heap_set h4 5 x5
  have h6 : (((((((w.setCell ⟨g, 0, none⟩ x0).setCell ⟨g, 1, none⟩ x1).setCell ⟨g, 2, none⟩ x2).setCell ⟨g, 3, none⟩ x3).setCell ⟨g, 4, none⟩ x4).setCell ⟨g, 5, none⟩ x5).setCell ⟨g, 6, none⟩ x6).heap[g]? = some (.cells #[x0, x1, x2, x3, x4, x5, x6, v7] t) := heap_set h5 6 x6
  have h7 : ((((((((w.setCell ⟨g, 0, none⟩ x0).setCell ⟨g, 1, none⟩ x1).setCell ⟨g, 2, none⟩ x2).setCell ⟨g, 3, none⟩ x3).setCell ⟨g, 4, none⟩ x4).setCell ⟨g, 5, none⟩ x5).setCell ⟨g, 6, none⟩ x6).setCell ⟨g, 7, none⟩ x7).heap[g]? = some (.cells #[x0, x1, x2, x3, x4, x5, x6, x7] t) := heap_set h6 7 x7
  exact h7
theorem put8_below (w : World) (g : Nat) (x0 x1 x2 x3 x4 x5 x6 x7 : Value) : Below g w ((((((((w.setCell ⟨g, 0, none⟩ x0).setCell ⟨g, 1, none⟩ x1).setCell ⟨g, 2, none⟩ x2).setCell ⟨g, 3, none⟩ x3).setCell ⟨g, 4, none⟩ x4).setCell ⟨g, 5, none⟩ x5).setCell ⟨g, 6, none⟩ x6).setCell ⟨g, 7, none⟩ x7) :=
  ((((((((Below.refl g w).setCell (p := ⟨g, 0, none⟩) (Nat.le_refl g) x0).setCell (p := ⟨g, 1, none⟩) (Nat.le_refl g) x1).setCell (p := ⟨g, 2, none⟩) (Nat.le_refl g) x2).setCell (p := ⟨g, 3, none⟩) (Nat.le_refl g) x3).setCell (p := ⟨g, 4, none⟩) (Nat.le_refl g) x4).setCell (p := ⟨g, 5, none⟩) (Nat.le_refl g) x5).setCell (p := ⟨g, 6, none⟩) (Nat.le_refl g) x6).setCell (p := ⟨g, 7, none⟩) (Nat.le_refl g) x7
theorem put8_other (w : World) (g : Nat) (x0 x1 x2 x3 x4 x5 x6 x7 : Value) (j : Nat) (h : j ≠ g) : ((((((((w.setCell ⟨g, 0, none⟩ x0).setCell ⟨g, 1, none⟩ x1).setCell ⟨g, 2, none⟩ x2).setCell ⟨g, 3, none⟩ x3).setCell ⟨g, 4, none⟩ x4).setCell ⟨g, 5, none⟩ x5).setCell ⟨g, 6, none⟩ x6).setCell ⟨g, 7, none⟩ x7).heap[j]? = w.heap[j]? := by
  rw [Below.heap_setCell _ _ _ _ h, Below.heap_setCell _ _ _ _ h, Below.heap_setCell _ _ _ _ h, Below.heap_setCell _ _ _ _ h, Below.heap_setCell _ _ _ _ h, Below.heap_setCell _ _ _ _ h, Below.heap_setCell _ _ _ _ h, Below.heap_setCell _ _ _ _ h]
set_option maxRecDepth 100000 in
set_option maxHeartbeats 4000000 in
theorem copyr39 (x : RA) (r : Rec) (w : World) (h : RRd w x r) (hn : r.ow.length ≤ 8796093022000) (hW : Wb r.d) :
    Calls Try.prog 10 #[.agg (recCells x r).toArray] w fun e w' => ∃ y : RA, e = .returned (.agg (recCells y r).toArray) ∧ Hid (ROwx w.heap.size w' y r ∧ Below w.heap.size w w') := by
  have KN : ∀ W, Below w.heap.size w W → Hid (Calls Try.prog 34 #[.slice x.o.a x.o.n x.o.c] W fun e w' => ∃ s5 : Sl, e = .returned (.slice s5.a s5.n s5.c) ∧ Hid (Owx1 W.heap.size w' s5 r.ow ∧ Below W.heap.size W w')) := fun W hb => copyn38 x.o r.ow W (h.1.below hb) hn
  have KD : ∀ W, Below w.heap.size w W → Hid (Calls Try.prog 35 #[.agg #[.slice x.d.p1.a x.d.p1.n x.d.p1.c, .slice x.d.p2.a x.d.p2.n x.d.p2.c, .slice x.d.p3.a x.d.p3.n x.d.p3.c, .slice x.d.p4.a x.d.p4.n x.d.p4.c]] W fun e w' => ∃ y : DA, e = .returned (.agg #[.slice y.p1.a y.p1.n y.p1.c, .slice y.p2.a y.p2.n y.p2.c, .slice y.p3.a y.p3.n y.p3.c, .slice y.p4.a y.p4.n y.p4.c]) ∧ Hid (DOwx W.heap.size w' y r.d ∧ Below W.heap.size W w')) := fun W hb => kcopy_any x.d r.d W (h.2.below hb) hW
  clear h hn hW
  obtain ⟨⟨xa, xn, xc⟩, ⟨⟨xa1, xn1, xc1⟩, ⟨xa2, xn2, xc2⟩, ⟨xa3, xn3, xc3⟩, ⟨xa4, xn4, xc4⟩⟩⟩ := x
  obtain ⟨ow, t, cl, tt, d⟩ := r
  simp only at KN KD
  show Calls Try.prog 10 #[.agg #[.slice xa xn xc, .int .u16 (t : Int), .int .u16 (cl : Int), .int .u32 (tt : Int), .slice xa1 xn1 xc1, .slice xa2 xn2 xc2, .slice xa3 xn3 xc3, .slice xa4 xn4 xc4]] w _
  obtain ⟨V, hV⟩ : ∃ V, V = (w.alloc (.cells #[.slice xa xn xc, .int .u16 (t : Int), .int .u16 (cl : Int), .int .u32 (tt : Int), .slice xa1 xn1 xc1, .slice xa2 xn2 xc2, .slice xa3 xn3 xc3, .slice xa4 xn4 xc4] 37)).alloc (.cells #[.slice none 0 0, .int .u16 0, .int .u16 0, .int .u32 0, .slice none 0 0, .slice none 0 0, .slice none 0 0, .slice none 0 0] 37) := ⟨_, rfl⟩
  have HV : Hid (Below w.heap.size w V ∧ V.heap[w.heap.size]? = some (.cells #[.slice xa xn xc, .int .u16 (t : Int), .int .u16 (cl : Int), .int .u32 (tt : Int), .slice xa1 xn1 xc1, .slice xa2 xn2 xc2, .slice xa3 xn3 xc3, .slice xa4 xn4 xc4] 37) ∧ V.heap[w.heap.size + 1]? = some (.cells #[.slice none 0 0, .int .u16 0, .int .u16 0, .int .u32 0, .slice none 0 0, .slice none 0 0, .slice none 0 0, .slice none 0 0] 37) ∧ V.heap.size = w.heap.size + 1 + 1) := by
    rw [hV]
    refine ⟨((Below.refl _ _).alloc (Nat.le_refl _) _).alloc (by simp) _, block_alloc (alloc_at _ _) _, ?_, by simp⟩
    have := alloc_at (w.alloc (.cells #[.slice xa xn xc, .int .u16 (t : Int), .int .u16 (cl : Int), .int .u32 (tt : Int), .slice xa1 xn1 xc1, .slice xa2 xn2 xc2, .slice xa3 xn3 xc3, .slice xa4 xn4 xc4] 37)) (.cells #[.slice none 0 0, .int .u16 0, .int .u16 0, .int .u32 0, .slice none 0 0, .slice none 0 0, .slice none 0 0, .slice none 0 0] 37)
    simp only [World.size_alloc] at this
    exact this
  have KS : ∀ W, Below V.heap.size V W → W.cell? ⟨w.heap.size, 0, none⟩ = some (.slice xa xn xc) ∧ W.cell? ⟨w.heap.size, 1, none⟩ = some (.int .u16 (t : Int)) ∧ W.cell? ⟨w.heap.size, 2, none⟩ = some (.int .u16 (cl : Int)) ∧ W.cell? ⟨w.heap.size, 3, none⟩ = some (.int .u32 (tt : Int)) ∧ W.cell? ⟨w.heap.size, 4, none⟩ = some (.slice xa1 xn1 xc1) ∧ W.cell? ⟨w.heap.size, 5, none⟩ = some (.slice xa2 xn2 xc2) ∧ W.cell? ⟨w.heap.size, 6, none⟩ = some (.slice xa3 xn3 xc3) ∧ W.cell? ⟨w.heap.size, 7, none⟩ = some (.slice xa4 xn4 xc4) := fun W hb => by
    have m := (hb.block _ (block_lt HV.out.2.1)).trans HV.out.2.1
    exact ⟨cell_of_block m rfl, cell_of_block m rfl, cell_of_block m rfl, cell_of_block m rfl, cell_of_block m rfl, cell_of_block m rfl, cell_of_block m rfl, cell_of_block m rfl⟩
  have KZ : ∀ W, Below V.heap.size V W → Hid (W.heap[w.heap.size + 1]? = some (.cells #[.slice none 0 0, .int .u16 0, .int .u16 0, .int .u32 0, .slice none 0 0, .slice none 0 0, .slice none 0 0, .slice none 0 0] 37)) := fun W hb => (hb.block _ (block_lt HV.out.2.2.1)).trans HV.out.2.2.1
  have p0 := block_lt HV.out.2.1
  have p1 := block_lt HV.out.2.2.1
  go_enter Try.func10, Try.ntmps10
  go_wp2_with fail
  rw [← hV]
  clear hV
  go_region_held3 (fun W => W.cell? ⟨w.heap.size, 0, none⟩ = some (.slice xa xn xc) ∧ W.cell? ⟨w.heap.size, 1, none⟩ = some (.int .u16 (t : Int)) ∧ W.cell? ⟨w.heap.size, 2, none⟩ = some (.int .u16 (cl : Int)) ∧ W.cell? ⟨w.heap.size, 3, none⟩ = some (.int .u32 (tt : Int)) ∧ W.cell? ⟨w.heap.size, 4, none⟩ = some (.slice xa1 xn1 xc1) ∧ W.cell? ⟨w.heap.size, 5, none⟩ = some (.slice xa2 xn2 xc2) ∧ W.cell? ⟨w.heap.size, 6, none⟩ = some (.slice xa3 xn3 xc3) ∧ W.cell? ⟨w.heap.size, 7, none⟩ = some (.slice xa4 xn4 xc4)) (first | exact ⟨(by rw [set_ne _ _ _ _ (by simp), set_ne _ _ _ _ (by simp), set_ne _ _ _ _ (by simp), set_ne _ _ _ _ (by simp), set_ne _ _ _ _ (by simp), set_ne _ _ _ _ (by simp), set_ne _ _ _ _ (by simp), set_ne _ _ _ _ (by simp)]; exact (KS _ HB7.out).1), (by rw [set_ne _ _ _ _ (by simp), set_ne _ _ _ _ (by simp), set_ne _ _ _ _ (by simp), set_ne _ _ _ _ (by simp), set_ne _ _ _ _ (by simp), set_ne _ _ _ _ (by simp), set_ne _ _ _ _ (by simp), set_ne _ _ _ _ (by simp)]; exact (KS _ HB7.out).2.1), (by rw [set_ne _ _ _ _ (by simp), set_ne _ _ _ _ (by simp), set_ne _ _ _ _ (by simp), set_ne _ _ _ _ (by simp), set_ne _ _ _ _ (by simp), set_ne _ _ _ _ (by simp), set_ne _ _ _ _ (by simp), set_ne _ _ _ _ (by simp)]; exact (KS _ HB7.out).2.2.1), (by rw [set_ne _ _ _ _ (by simp), set_ne _ _ _ _ (by simp), set_ne _ _ _ _ (by simp), set_ne _ _ _ _ (by simp), set_ne _ _ _ _ (by simp), set_ne _ _ _ _ (by simp), set_ne _ _ _ _ (by simp), set_ne _ _ _ _ (by simp)]; exact (KS _ HB7.out).2.2.2.1), (by rw [set_ne _ _ _ _ (by simp), set_ne _ _ _ _ (by simp), set_ne _ _ _ _ (by simp), set_ne _ _ _ _ (by simp), set_ne _ _ _ _ (by simp), set_ne _ _ _ _ (by simp), set_ne _ _ _ _ (by simp), set_ne _ _ _ _ (by simp)]; exact (KS _ HB7.out).2.2.2.2.1), (by rw [set_ne _ _ _ _ (by simp), set_ne _ _ _ _ (by simp), set_ne _ _ _ _ (by simp), set_ne _ _ _ _ (by simp), set_ne _ _ _ _ (by simp), set_ne _ _ _ _ (by simp), set_ne _ _ _ _ (by simp), set_ne _ _ _ _ (by simp)]; exact (KS _ HB7.out).2.2.2.2.2.1), (by rw [set_ne _ _ _ _ (by simp), set_ne _ _ _ _ (by simp), set_ne _ _ _ _ (by simp), set_ne _ _ _ _ (by simp), set_ne _ _ _ _ (by simp), set_ne _ _ _ _ (by simp), set_ne _ _ _ _ (by simp), set_ne _ _ _ _ (by simp)]; exact (KS _ HB7.out).2.2.2.2.2.2.1), (by rw [set_ne _ _ _ _ (by simp), set_ne _ _ _ _ (by simp), set_ne _ _ _ _ (by simp), set_ne _ _ _ _ (by simp), set_ne _ _ _ _ (by simp), set_ne _ _ _ _ (by simp), set_ne _ _ _ _ (by simp), set_ne _ _ _ _ (by simp)]; exact (KS _ HB7.out).2.2.2.2.2.2.2)⟩ | exact KS _ HB7.out | exact KS _ HB6.out | exact KS _ (Below.refl V.heap.size V).drew | exact KS _ (Below.refl V.heap.size V)) (first
    | (go_at_call 34; refine Calls.mono (KN _ ?hb).out ?_; (case hb => first | exact HV.out.1.drew | exact HV.out.1); rintro e w6 ⟨⟨ya, yn, yc⟩, rfl, H6⟩; have HB6 : Hid (Below V.heap.size V w6) := (by first | exact (Below.refl V.heap.size V).drew.trans H6.out.2 | exact H6.out.2))
    | (go_at_call 35; refine Calls.mono (KD _ ?hb).out ?_; (case hb => first | exact HV.out.1.trans (HB6.out.mono HV.out.1.size) | exact (HV.out.1.trans (HB6.out.mono HV.out.1.size)).drew); rintro e w7 ⟨⟨⟨ua1, un1, uc1⟩, ⟨ua2, un2, uc2⟩, ⟨ua3, un3, uc3⟩, ⟨ua4, un4, uc4⟩⟩, rfl, H7⟩; have HB7 : Hid (Below V.heap.size V w7) := (by first | exact HB6.out.trans (H7.out.2.mono HB6.out.size) | exact HB6.out.drew.trans (H7.out.2.mono HB6.out.size)); have z := KZ w7 HB7.out; have z0 : w7.cell? ⟨w.heap.size + 1, 0, none⟩ = some (.slice none 0 0) := (cell_of_block z.out rfl); have z1 : w7.cell? ⟨w.heap.size + 1, 1, none⟩ = some (.int .u16 0) := (cell_of_block z.out rfl); have z2 : w7.cell? ⟨w.heap.size + 1, 2, none⟩ = some (.int .u16 0) := (cell_of_block z.out rfl); have z3 : w7.cell? ⟨w.heap.size + 1, 3, none⟩ = some (.int .u32 0) := (cell_of_block z.out rfl); have z4 : w7.cell? ⟨w.heap.size + 1, 4, none⟩ = some (.slice none 0 0) := (cell_of_block z.out rfl); have z5 : w7.cell? ⟨w.heap.size + 1, 5, none⟩ = some (.slice none 0 0) := (cell_of_block z.out rfl); have z6 : w7.cell? ⟨w.heap.size + 1, 6, none⟩ = some (.slice none 0 0) := (cell_of_block z.out rfl); have z7 : w7.cell? ⟨w.heap.size + 1, 7, none⟩ = some (.slice none 0 0) := (cell_of_block z.out rfl); have f0 : w7.frozen? ⟨w.heap.size + 1, 0, none⟩ = false := (frozen_of_block z.out); have f1 : w7.frozen? ⟨w.heap.size + 1, 1, none⟩ = false := (frozen_of_block z.out); have f2 : w7.frozen? ⟨w.heap.size + 1, 2, none⟩ = false := (frozen_of_block z.out); have f3 : w7.frozen? ⟨w.heap.size + 1, 3, none⟩ = false := (frozen_of_block z.out); have f4 : w7.frozen? ⟨w.heap.size + 1, 4, none⟩ = false := (frozen_of_block z.out); have f5 : w7.frozen? ⟨w.heap.size + 1, 5, none⟩ = false := (frozen_of_block z.out); have f6 : w7.frozen? ⟨w.heap.size + 1, 6, none⟩ = false := (frozen_of_block z.out); have f7 : w7.frozen? ⟨w.heap.size + 1, 7, none⟩ = false := (frozen_of_block z.out); have p7 := block_lt z.out)
    | fail)
  have z8 : ((((((((w7.setCell ⟨w.heap.size + 1, 0, none⟩ (.slice ya yn yc)).setCell ⟨w.heap.size + 1, 1, none⟩ (.int .u16 (t : Int))).setCell ⟨w.heap.size + 1, 2, none⟩ (.int .u16 (cl : Int))).setCell ⟨w.heap.size + 1, 3, none⟩ (.int .u32 (tt : Int))).setCell ⟨w.heap.size + 1, 4, none⟩ (.slice ua1 un1 uc1)).setCell ⟨w.heap.size + 1, 5, none⟩ (.slice ua2 un2 uc2)).setCell ⟨w.heap.size + 1, 6, none⟩ (.slice ua3 un3 uc3)).setCell ⟨w.heap.size + 1, 7, none⟩ (.slice ua4 un4 uc4)).heap[w.heap.size + 1]? = some (.cells #[.slice ya yn yc, .int .u16 (t : Int), .int .u16 (cl : Int), .int .u32 (tt : Int), .slice ua1 un1 uc1, .slice ua2 un2 uc2, .slice ua3 un3 uc3, .slice ua4 un4 uc4] 37) := by
    exact put8 z.out _ _ _ _ _ _ _ _
  have HO8 : Hid (∀ j, j ≠ w.heap.size + 1 → ((((((((w7.setCell ⟨w.heap.size + 1, 0, none⟩ (.slice ya yn yc)).setCell ⟨w.heap.size + 1, 1, none⟩ (.int .u16 (t : Int))).setCell ⟨w.heap.size + 1, 2, none⟩ (.int .u16 (cl : Int))).setCell ⟨w.heap.size + 1, 3, none⟩ (.int .u32 (tt : Int))).setCell ⟨w.heap.size + 1, 4, none⟩ (.slice ua1 un1 uc1)).setCell ⟨w.heap.size + 1, 5, none⟩ (.slice ua2 un2 uc2)).setCell ⟨w.heap.size + 1, 6, none⟩ (.slice ua3 un3 uc3)).setCell ⟨w.heap.size + 1, 7, none⟩ (.slice ua4 un4 uc4)).heap[j]? = w7.heap[j]?) := fun j hj => put8_other w7 (w.heap.size + 1) _ _ _ _ _ _ _ _ j hj
  have HB8 : Hid (Below V.heap.size V w7 ∧ Below (w.heap.size + 1) w7 ((((((((w7.setCell ⟨w.heap.size + 1, 0, none⟩ (.slice ya yn yc)).setCell ⟨w.heap.size + 1, 1, none⟩ (.int .u16 (t : Int))).setCell ⟨w.heap.size + 1, 2, none⟩ (.int .u16 (cl : Int))).setCell ⟨w.heap.size + 1, 3, none⟩ (.int .u32 (tt : Int))).setCell ⟨w.heap.size + 1, 4, none⟩ (.slice ua1 un1 uc1)).setCell ⟨w.heap.size + 1, 5, none⟩ (.slice ua2 un2 uc2)).setCell ⟨w.heap.size + 1, 6, none⟩ (.slice ua3 un3 uc3)).setCell ⟨w.heap.size + 1, 7, none⟩ (.slice ua4 un4 uc4))) := ⟨HB7.out, put8_below w7 (w.heap.size + 1) _ _ _ _ _ _ _ _⟩
  generalize ((((((((w7.setCell ⟨w.heap.size + 1, 0, none⟩ (.slice ya yn yc)).setCell ⟨w.heap.size + 1, 1, none⟩ (.int .u16 (t : Int))).setCell ⟨w.heap.size + 1, 2, none⟩ (.int .u16 (cl : Int))).setCell ⟨w.heap.size + 1, 3, none⟩ (.int .u32 (tt : Int))).setCell ⟨w.heap.size + 1, 4, none⟩ (.slice ua1 un1 uc1)).setCell ⟨w.heap.size + 1, 5, none⟩ (.slice ua2 un2 uc2)).setCell ⟨w.heap.size + 1, 6, none⟩ (.slice ua3 un3 uc3)).setCell ⟨w.heap.size + 1, 7, none⟩ (.slice ua4 un4 uc4)) = w8 at *
  have y0 : w8.cell? ⟨w.heap.size + 1, 0, none⟩ = some (.slice ya yn yc) := cell_of_block z8 rfl
  have y1 : w8.cell? ⟨w.heap.size + 1, 1, none⟩ = some (.int .u16 (t : Int)) := cell_of_block z8 rfl
  have y2 : w8.cell? ⟨w.heap.size + 1, 2, none⟩ = some (.int .u16 (cl : Int)) := cell_of_block z8 rfl
  have y3 : w8.cell? ⟨w.heap.size + 1, 3, none⟩ = some (.int .u32 (tt : Int)) := cell_of_block z8 rfl
  have y4 : w8.cell? ⟨w.heap.size + 1, 4, none⟩ = some (.slice ua1 un1 uc1) := cell_of_block z8 rfl
  have y5 : w8.cell? ⟨w.heap.size + 1, 5, none⟩ = some (.slice ua2 un2 uc2) := cell_of_block z8 rfl
  have y6 : w8.cell? ⟨w.heap.size + 1, 6, none⟩ = some (.slice ua3 un3 uc3) := cell_of_block z8 rfl
  have y7 : w8.cell? ⟨w.heap.size + 1, 7, none⟩ = some (.slice ua4 un4 uc4) := cell_of_block z8 rfl
  have y8 := block_lt z8
  clear z8 z0 f0 z1 f1 z2 f2 z3 f3 z4 f4 z5 f5 z6 f6 z7 f7 KS KZ
  go_wp2
  have hs := HV.out.2.2.2
  have h67 : Hid (Below w6.heap.size w6 w7) := H7.out.2
  refine bodyPost_ret (v := .agg #[.slice ya yn yc, .int .u16 (t : Int), .int .u16 (cl : Int), .int .u32 (tt : Int), .slice ua1 un1 uc1, .slice ua2 un2 uc2, .slice ua3 un3 uc3, .slice ua4 un4 uc4]) ?_ rfl ⟨⟨⟨ya, yn, yc⟩, ⟨⟨ua1, un1, uc1⟩, ⟨ua2, un2, uc2⟩, ⟨ua3, un3, uc3⟩, ⟨ua4, un4, uc4⟩⟩⟩, rfl, ⟨?_, ?_⟩, ?_⟩
  · simp [results, Try.results10, go_sem, y0, y1, y2, y3, y4, y5, y6, y7]
  · have h6 : Owx1 V.heap.size w6 ⟨ya, yn, yc⟩ ow := H6.out.1
    exact ((h6.stays h67.out).keep fun j h1 _ _ => HO8.out j (by omega)).mono (by omega)
  · have h7 : DOwx w6.heap.size w7 ⟨⟨ua1, un1, uc1⟩, ⟨ua2, un2, uc2⟩, ⟨ua3, un3, uc3⟩, ⟨ua4, un4, uc4⟩⟩ d := H7.out.1
    have hv6 := HB6.out.size
    exact (h7.keep fun j h1 _ => HO8.out j (by omega)).mono (by omega)
  · exact (HV.out.1.trans (HB8.out.1.mono (by omega))).trans (HB8.out.2.mono (by omega))
end Go.Proofs.Ytgeoadkcmbageaa
namespace Go.Proofs.Ytgeoadkcmbageaa
open Go.ChangeShapes Go.WideShapes Go.ChangeAt Go.RowKit
set_option linter.unusedVariables false
set_option linter.unusedSimpArgs false
/-- The record of what is said. -/
def recE (E : Edn) : Rec := ⟨[], 41, E.sz.toNat, ttlE E, ⟨[], [], [], obs E.os⟩⟩
def nilS : Sl := ⟨none, 0, 0⟩
theorem nil_t (w : World) : TRd w nilS [] := ⟨.inl rfl, rfl, ⟨Nat.le_refl _, by simp [nilS]⟩, fun _ => rfl, fun x hx => (by cases hx)⟩
theorem Blk.brd {w : World} {g n : Nat} {zs : List Int} (h : Blk w g zs) (hn : zs.length = n) (hm : n ≤ 1000000) : BRd w ⟨some ⟨g, 0, none⟩, n, n⟩ zs :=
  ⟨⟨.inr ⟨g, 0, rfl, h.lt, fun i hi => by rw [Nat.zero_add]; exact h.cell i hi⟩, h.2⟩, hn, ⟨Nat.le_refl _, by simp only; omega⟩, by simp⟩
set_option maxRecDepth 100000 in
set_option maxHeartbeats 4000000 in
theorem record11_no (E : Edn) (s : Sl) (w : World) (h : OsRd w s E.os) (hf : ∀ o ∈ E.os, o.d.length ≤ 65540) (hs : ¬ Say E) : Calls Try.prog 11 #[.agg #[.int .i64 E.sz, .int .i64 E.hi, .int .i64 E.ve, .bool E.dd, .slice s.a s.n s.c]] w fun e w' => e = .returned (.tuple #[.agg #[.slice none 0 0, .int .u16 0, .int .u16 0, .int .u32 0, .slice none 0 0, .slice none 0 0, .slice none 0 0, .slice none 0 0], .int .i64 2]) ∧ Hid (Below w.heap.size w w') := by
  have HO : Hid (OsRd w s E.os) := h
  have HF : Hid (∀ o ∈ E.os, o.d.length ≤ 65540) := hf
  have HD : Hid (decide (Say E) = false) := decide_eq_false hs
  clear h hf hs
  obtain ⟨sz, hi, ve, dd, os⟩ := E
  obtain ⟨sa, sn, sc⟩ := s
  simp only at *
  obtain ⟨V, hV⟩ : ∃ V, V = (w.alloc (.cells #[.int .i64 sz, .int .i64 hi, .int .i64 ve, .bool dd, .slice sa sn sc] 24)).alloc (.cells #[.slice none 0 0, .int .u16 0, .int .u16 0, .int .u32 0, .slice none 0 0, .slice none 0 0, .slice none 0 0, .slice none 0 0] 37) := ⟨_, rfl⟩
  have HV : Hid (Below w.heap.size w V ∧ V.heap[w.heap.size]? = some (.cells #[.int .i64 sz, .int .i64 hi, .int .i64 ve, .bool dd, .slice sa sn sc] 24) ∧ V.heap[w.heap.size + 1]? = some (.cells #[.slice none 0 0, .int .u16 0, .int .u16 0, .int .u32 0, .slice none 0 0, .slice none 0 0, .slice none 0 0, .slice none 0 0] 37) ∧ V.heap.size = w.heap.size + 1 + 1) := by
    rw [hV]
    refine ⟨((Below.refl _ _).alloc (Nat.le_refl _) _).alloc (by simp) _, block_alloc (alloc_at _ _) _, ?_, by simp⟩
    have := alloc_at (w.alloc (.cells #[.int .i64 sz, .int .i64 hi, .int .i64 ve, .bool dd, .slice sa sn sc] 24)) (.cells #[.slice none 0 0, .int .u16 0, .int .u16 0, .int .u32 0, .slice none 0 0, .slice none 0 0, .slice none 0 0, .slice none 0 0] 37)
    simp only [World.size_alloc] at this
    exact this
  have KS : ∀ W, Below V.heap.size V W → W.cell? ⟨w.heap.size, 0, none⟩ = some (.int .i64 sz) ∧ W.cell? ⟨w.heap.size, 1, none⟩ = some (.int .i64 hi) ∧ W.cell? ⟨w.heap.size, 2, none⟩ = some (.int .i64 ve) ∧ W.cell? ⟨w.heap.size, 3, none⟩ = some (.bool dd) ∧ W.cell? ⟨w.heap.size, 4, none⟩ = some (.slice sa sn sc) := fun W hb => by
    have m := (hb.block _ (block_lt HV.out.2.1)).trans HV.out.2.1
    exact ⟨cell_of_block m rfl, cell_of_block m rfl, cell_of_block m rfl, cell_of_block m rfl, cell_of_block m rfl⟩
  have KZ : ∀ W, Below V.heap.size V W → Hid (W.heap[w.heap.size + 1]? = some (.cells #[.slice none 0 0, .int .u16 0, .int .u16 0, .int .u32 0, .slice none 0 0, .slice none 0 0, .slice none 0 0, .slice none 0 0] 37)) := fun W hb => (hb.block _ (block_lt HV.out.2.2.1)).trans HV.out.2.2.1
  have p0 := block_lt HV.out.2.1
  have p1 := block_lt HV.out.2.2.1
  have KM := Lib.hid (may36 ⟨sz, hi, ve, dd, os⟩ ⟨sa, sn, sc⟩ V (HO.out.below HV.out.1) HF.out)
  go_enter Try.func11, Try.ntmps11
  go_wp2_with fail
  rw [← hV]
  obtain ⟨c0, c1, c2, c3, c4⟩ := KS V (Below.refl _ _)
  have HVV : Hid (V = (w.alloc (.cells #[.int .i64 sz, .int .i64 hi, .int .i64 ve, .bool dd, .slice sa sn sc] 24)).alloc (.cells #[.slice none 0 0, .int .u16 0, .int .u16 0, .int .u32 0, .slice none 0 0, .slice none 0 0, .slice none 0 0, .slice none 0 0] 37)) := hV
  clear hV
  go_wp2_with fail
  refine KM.out.mono ?_
  rintro e w1 ⟨rfl, H1⟩
  clear c0 c1 c2 c3 c4
  rw [HD.out]
  obtain ⟨d0, d1, d2, d3, d4⟩ := KS w1 H1.out
  have q0 : w.heap.size < w1.heap.size := Nat.lt_of_lt_of_le p0 H1.out.size
  have q1 : w.heap.size + 1 < w1.heap.size := Nat.lt_of_lt_of_le p1 H1.out.size
  have z := KZ w1 H1.out
  have z0 : w1.cell? ⟨w.heap.size + 1, 0, none⟩ = some (.slice none 0 0) := (cell_of_block z.out rfl)
  have z1 : w1.cell? ⟨w.heap.size + 1, 1, none⟩ = some (.int .u16 0) := (cell_of_block z.out rfl)
  have z2 : w1.cell? ⟨w.heap.size + 1, 2, none⟩ = some (.int .u16 0) := (cell_of_block z.out rfl)
  have z3 : w1.cell? ⟨w.heap.size + 1, 3, none⟩ = some (.int .u32 0) := (cell_of_block z.out rfl)
  have z4 : w1.cell? ⟨w.heap.size + 1, 4, none⟩ = some (.slice none 0 0) := (cell_of_block z.out rfl)
  have z5 : w1.cell? ⟨w.heap.size + 1, 5, none⟩ = some (.slice none 0 0) := (cell_of_block z.out rfl)
  have z6 : w1.cell? ⟨w.heap.size + 1, 6, none⟩ = some (.slice none 0 0) := (cell_of_block z.out rfl)
  have z7 : w1.cell? ⟨w.heap.size + 1, 7, none⟩ = some (.slice none 0 0) := (cell_of_block z.out rfl)
  have f0 : w1.frozen? ⟨w.heap.size + 1, 0, none⟩ = false := (frozen_of_block z.out)
  have f1 : w1.frozen? ⟨w.heap.size + 1, 1, none⟩ = false := (frozen_of_block z.out)
  have f2 : w1.frozen? ⟨w.heap.size + 1, 2, none⟩ = false := (frozen_of_block z.out)
  have f3 : w1.frozen? ⟨w.heap.size + 1, 3, none⟩ = false := (frozen_of_block z.out)
  have f4 : w1.frozen? ⟨w.heap.size + 1, 4, none⟩ = false := (frozen_of_block z.out)
  have f5 : w1.frozen? ⟨w.heap.size + 1, 5, none⟩ = false := (frozen_of_block z.out)
  have f6 : w1.frozen? ⟨w.heap.size + 1, 6, none⟩ = false := (frozen_of_block z.out)
  have f7 : w1.frozen? ⟨w.heap.size + 1, 7, none⟩ = false := (frozen_of_block z.out)
  go_wp2_with fail
  have z8 : ((((((((w1.setCell ⟨w.heap.size + 1, 0, none⟩ (.slice none 0 0)).setCell ⟨w.heap.size + 1, 1, none⟩ (.int .u16 0)).setCell ⟨w.heap.size + 1, 2, none⟩ (.int .u16 0)).setCell ⟨w.heap.size + 1, 3, none⟩ (.int .u32 0)).setCell ⟨w.heap.size + 1, 4, none⟩ (.slice none 0 0)).setCell ⟨w.heap.size + 1, 5, none⟩ (.slice none 0 0)).setCell ⟨w.heap.size + 1, 6, none⟩ (.slice none 0 0)).setCell ⟨w.heap.size + 1, 7, none⟩ (.slice none 0 0)).heap[w.heap.size + 1]? = some (.cells #[.slice none 0 0, .int .u16 0, .int .u16 0, .int .u32 0, .slice none 0 0, .slice none 0 0, .slice none 0 0, .slice none 0 0] 37) := put8 z.out _ _ _ _ _ _ _ _
  have HB8 : Hid (Below (w.heap.size + 1) w1 ((((((((w1.setCell ⟨w.heap.size + 1, 0, none⟩ (.slice none 0 0)).setCell ⟨w.heap.size + 1, 1, none⟩ (.int .u16 0)).setCell ⟨w.heap.size + 1, 2, none⟩ (.int .u16 0)).setCell ⟨w.heap.size + 1, 3, none⟩ (.int .u32 0)).setCell ⟨w.heap.size + 1, 4, none⟩ (.slice none 0 0)).setCell ⟨w.heap.size + 1, 5, none⟩ (.slice none 0 0)).setCell ⟨w.heap.size + 1, 6, none⟩ (.slice none 0 0)).setCell ⟨w.heap.size + 1, 7, none⟩ (.slice none 0 0))) := put8_below w1 (w.heap.size + 1) _ _ _ _ _ _ _ _
  generalize ((((((((w1.setCell ⟨w.heap.size + 1, 0, none⟩ (.slice none 0 0)).setCell ⟨w.heap.size + 1, 1, none⟩ (.int .u16 0)).setCell ⟨w.heap.size + 1, 2, none⟩ (.int .u16 0)).setCell ⟨w.heap.size + 1, 3, none⟩ (.int .u32 0)).setCell ⟨w.heap.size + 1, 4, none⟩ (.slice none 0 0)).setCell ⟨w.heap.size + 1, 5, none⟩ (.slice none 0 0)).setCell ⟨w.heap.size + 1, 6, none⟩ (.slice none 0 0)).setCell ⟨w.heap.size + 1, 7, none⟩ (.slice none 0 0)) = w8 at *
  have y0 : w8.cell? ⟨w.heap.size + 1, 0, none⟩ = some (.slice none 0 0) := cell_of_block z8 rfl
  have y1 : w8.cell? ⟨w.heap.size + 1, 1, none⟩ = some (.int .u16 0) := cell_of_block z8 rfl
  have y2 : w8.cell? ⟨w.heap.size + 1, 2, none⟩ = some (.int .u16 0) := cell_of_block z8 rfl
  have y3 : w8.cell? ⟨w.heap.size + 1, 3, none⟩ = some (.int .u32 0) := cell_of_block z8 rfl
  have y4 : w8.cell? ⟨w.heap.size + 1, 4, none⟩ = some (.slice none 0 0) := cell_of_block z8 rfl
  have y5 : w8.cell? ⟨w.heap.size + 1, 5, none⟩ = some (.slice none 0 0) := cell_of_block z8 rfl
  have y6 : w8.cell? ⟨w.heap.size + 1, 6, none⟩ = some (.slice none 0 0) := cell_of_block z8 rfl
  have y7 : w8.cell? ⟨w.heap.size + 1, 7, none⟩ = some (.slice none 0 0) := cell_of_block z8 rfl
  have y8 := block_lt z8
  clear z8 z0 f0 z1 f1 z2 f2 z3 f3 z4 f4 z5 f5 z6 f6 z7 f7 KS KZ
  have hss := HV.out.2.2.2
  refine bodyPost_ret (v := .tuple #[.agg #[.slice none 0 0, .int .u16 0, .int .u16 0, .int .u32 0, .slice none 0 0, .slice none 0 0, .slice none 0 0, .slice none 0 0], .int .i64 2]) ?_ rfl ⟨rfl, ?_⟩
  · simp [results, Try.results11, go_sem, y0, y1, y2, y3, y4, y5, y6, y7]
  · exact (HV.out.1.trans (H1.out.mono (by omega))).trans (HB8.out.mono (by omega))
set_option maxRecDepth 100000 in
set_option maxHeartbeats 4000000 in
theorem record11_yes (E : Edn) (s : Sl) (w : World) (h : OsRd w s E.os) (hf : ∀ o ∈ E.os, o.d.length ≤ 65540) (hs : Say E) : Calls Try.prog 11 #[.agg #[.int .i64 E.sz, .int .i64 E.hi, .int .i64 E.ve, .bool E.dd, .slice s.a s.n s.c]] w fun e w' => ∃ x : RA, e = .returned (.tuple #[.agg (recCells x (recE E)).toArray, .int .i64 0]) ∧ Hid (RRd w' x (recE E) ∧ Below w.heap.size w w') := by
  have HO : Hid (OsRd w s E.os) := h
  have HF : Hid (∀ o ∈ E.os, o.d.length ≤ 65540) := hf
  have HD : Hid (decide (Say E) = true) := decide_eq_true hs
  have HSY : Hid (Say E) := hs
  have hz1 := hs.1
  have HR : Hid (recE E = ⟨[], 41, E.sz.toNat, ttlE E, ⟨[], [], [], obs E.os⟩⟩) := (show _ = _ from rfl)
  clear h hf hs
  generalize recE E = r at *
  obtain ⟨sz, hi, ve, dd, os⟩ := E
  obtain ⟨sa, sn, sc⟩ := s
  simp only at *
  have hwz : IntKind.u16.wrap sz = sz := by rw [IntKind.wrap_u16]; omega
  obtain ⟨n, hn⟩ : ∃ n, n = (obs os).length := ⟨_, rfl⟩
  have HN : Hid (n = (obs os).length) := hn
  obtain ⟨T, hT⟩ : ∃ T : Int, T = (ttlE ⟨sz, hi, ve, dd, os⟩ : Int) := ⟨_, rfl⟩
  have HT : Hid (T = (ttlE ⟨sz, hi, ve, dd, os⟩ : Int)) := hT
  clear hn hT
  obtain ⟨V, hV⟩ : ∃ V, V = (w.alloc (.cells #[.int .i64 sz, .int .i64 hi, .int .i64 ve, .bool dd, .slice sa sn sc] 24)).alloc (.cells #[.slice none 0 0, .int .u16 0, .int .u16 0, .int .u32 0, .slice none 0 0, .slice none 0 0, .slice none 0 0, .slice none 0 0] 37) := ⟨_, rfl⟩
  have HV : Hid (Below w.heap.size w V ∧ V.heap[w.heap.size]? = some (.cells #[.int .i64 sz, .int .i64 hi, .int .i64 ve, .bool dd, .slice sa sn sc] 24) ∧ V.heap[w.heap.size + 1]? = some (.cells #[.slice none 0 0, .int .u16 0, .int .u16 0, .int .u32 0, .slice none 0 0, .slice none 0 0, .slice none 0 0, .slice none 0 0] 37) ∧ V.heap.size = w.heap.size + 1 + 1) := by
    rw [hV]
    refine ⟨((Below.refl _ _).alloc (Nat.le_refl _) _).alloc (by simp) _, block_alloc (alloc_at _ _) _, ?_, by simp⟩
    have := alloc_at (w.alloc (.cells #[.int .i64 sz, .int .i64 hi, .int .i64 ve, .bool dd, .slice sa sn sc] 24)) (.cells #[.slice none 0 0, .int .u16 0, .int .u16 0, .int .u32 0, .slice none 0 0, .slice none 0 0, .slice none 0 0, .slice none 0 0] 37)
    simp only [World.size_alloc] at this
    exact this
  have KS : ∀ W, Below V.heap.size V W → W.cell? ⟨w.heap.size, 0, none⟩ = some (.int .i64 sz) ∧ W.cell? ⟨w.heap.size, 1, none⟩ = some (.int .i64 hi) ∧ W.cell? ⟨w.heap.size, 2, none⟩ = some (.int .i64 ve) ∧ W.cell? ⟨w.heap.size, 3, none⟩ = some (.bool dd) ∧ W.cell? ⟨w.heap.size, 4, none⟩ = some (.slice sa sn sc) := fun W hb => by
    have m := (hb.block _ (block_lt HV.out.2.1)).trans HV.out.2.1
    exact ⟨cell_of_block m rfl, cell_of_block m rfl, cell_of_block m rfl, cell_of_block m rfl, cell_of_block m rfl⟩
  have KZ : ∀ W, Below V.heap.size V W → Hid (W.heap[w.heap.size + 1]? = some (.cells #[.slice none 0 0, .int .u16 0, .int .u16 0, .int .u32 0, .slice none 0 0, .slice none 0 0, .slice none 0 0, .slice none 0 0] 37)) := fun W hb => (hb.block _ (block_lt HV.out.2.2.1)).trans HV.out.2.2.1
  have p0 := block_lt HV.out.2.1
  have p1 := block_lt HV.out.2.2.1
  have KM := Lib.hid (may36 ⟨sz, hi, ve, dd, os⟩ ⟨sa, sn, sc⟩ V (HO.out.below HV.out.1) HF.out)
  go_enter Try.func11, Try.ntmps11
  go_wp2_with fail
  rw [← hV]
  obtain ⟨c0, c1, c2, c3, c4⟩ := KS V (Below.refl _ _)
  have HVV : Hid (V = (w.alloc (.cells #[.int .i64 sz, .int .i64 hi, .int .i64 ve, .bool dd, .slice sa sn sc] 24)).alloc (.cells #[.slice none 0 0, .int .u16 0, .int .u16 0, .int .u32 0, .slice none 0 0, .slice none 0 0, .slice none 0 0, .slice none 0 0] 37)) := hV
  clear hV
  go_wp2_with fail
  refine KM.out.mono ?_
  rintro e w1 ⟨rfl, H1⟩
  clear c0 c1 c2 c3 c4
  rw [HD.out]
  obtain ⟨d0, d1, d2, d3, d4⟩ := KS w1 H1.out
  have q0 : w.heap.size < w1.heap.size := Nat.lt_of_lt_of_le p0 H1.out.size
  have q1 : w.heap.size + 1 < w1.heap.size := Nat.lt_of_lt_of_le p1 H1.out.size
  have K37 : ∀ W : World, Hid (Calls Try.prog 37 #[.agg #[.int .i64 sz, .int .i64 hi, .int .i64 ve, .bool dd, .slice sa sn sc]] W fun e w' => e = .returned (.int .u32 T) ∧ Hid (Below W.heap.size W w')) := fun W => by
    rw [HT.out]
    exact ttl37 ⟨sz, hi, ve, dd, os⟩ ⟨sa, sn, sc⟩ W HSY.out
  have K38 : ∀ W : World, Below w.heap.size w W → Hid (Calls Try.prog 38 #[.slice sa sn sc] W fun e w' => ∃ g, e = .returned (.slice (some ⟨g, 0, none⟩) n n) ∧ Hid (W.heap.size ≤ g ∧ Blk w' g (obs os) ∧ Below W.heap.size W w')) := fun W hb => by
    rw [HN.out]
    exact written38 ⟨sa, sn, sc⟩ os W (HO.out.below hb) HSY.out.2.2.2
  have HB1 : Hid (Below V.heap.size V w1) := H1.out
  go_upto_region 3 with fail
  go_region_held3 (fun W => W.cell? ⟨w.heap.size, 0, none⟩ = some (.int .i64 sz) ∧ W.cell? ⟨w.heap.size, 1, none⟩ = some (.int .i64 hi) ∧ W.cell? ⟨w.heap.size, 2, none⟩ = some (.int .i64 ve) ∧ W.cell? ⟨w.heap.size, 3, none⟩ = some (.bool dd) ∧ W.cell? ⟨w.heap.size, 4, none⟩ = some (.slice sa sn sc)) (first | exact ⟨(by rw [set_ne _ _ _ _ (by simp), set_ne _ _ _ _ (by simp), set_ne _ _ _ _ (by simp), set_ne _ _ _ _ (by simp), set_ne _ _ _ _ (by simp), set_ne _ _ _ _ (by simp), set_ne _ _ _ _ (by simp), set_ne _ _ _ _ (by simp)]; exact (KS _ HB7.out).1), (by rw [set_ne _ _ _ _ (by simp), set_ne _ _ _ _ (by simp), set_ne _ _ _ _ (by simp), set_ne _ _ _ _ (by simp), set_ne _ _ _ _ (by simp), set_ne _ _ _ _ (by simp), set_ne _ _ _ _ (by simp), set_ne _ _ _ _ (by simp)]; exact (KS _ HB7.out).2.1), (by rw [set_ne _ _ _ _ (by simp), set_ne _ _ _ _ (by simp), set_ne _ _ _ _ (by simp), set_ne _ _ _ _ (by simp), set_ne _ _ _ _ (by simp), set_ne _ _ _ _ (by simp), set_ne _ _ _ _ (by simp), set_ne _ _ _ _ (by simp)]; exact (KS _ HB7.out).2.2.1), (by rw [set_ne _ _ _ _ (by simp), set_ne _ _ _ _ (by simp), set_ne _ _ _ _ (by simp), set_ne _ _ _ _ (by simp), set_ne _ _ _ _ (by simp), set_ne _ _ _ _ (by simp), set_ne _ _ _ _ (by simp), set_ne _ _ _ _ (by simp)]; exact (KS _ HB7.out).2.2.2.1), (by rw [set_ne _ _ _ _ (by simp), set_ne _ _ _ _ (by simp), set_ne _ _ _ _ (by simp), set_ne _ _ _ _ (by simp), set_ne _ _ _ _ (by simp), set_ne _ _ _ _ (by simp), set_ne _ _ _ _ (by simp), set_ne _ _ _ _ (by simp)]; exact (KS _ HB7.out).2.2.2.2)⟩ | exact KS _ HB7.out | exact KS _ HB6.out | exact KS _ HB1.out.drew | exact KS _ HB1.out) (first
    | (go_at_call 37; refine Calls.mono (K37 _).out ?_; rintro e w6 ⟨rfl, H6⟩; have HB6 : Hid (Below V.heap.size V w6) := (by first | exact HB1.out.drew.trans (H6.out.mono HB1.out.size) | exact HB1.out.trans (H6.out.mono HB1.out.size)))
    | (go_at_call 38; refine Calls.mono (K38 _ ?hb).out ?_; (case hb => first | exact HV.out.1.trans (HB6.out.mono HV.out.1.size) | exact (HV.out.1.trans (HB6.out.mono HV.out.1.size)).drew); rintro e w7 ⟨g7, rfl, H7⟩; have HB7 : Hid (Below V.heap.size V w7) := (by first | exact HB6.out.trans (H7.out.2.2.mono HB6.out.size) | exact HB6.out.drew.trans (H7.out.2.2.mono HB6.out.size)); have z := KZ w7 HB7.out; have z0 : w7.cell? ⟨w.heap.size + 1, 0, none⟩ = some (.slice none 0 0) := (cell_of_block z.out rfl); have z1 : w7.cell? ⟨w.heap.size + 1, 1, none⟩ = some (.int .u16 0) := (cell_of_block z.out rfl); have z2 : w7.cell? ⟨w.heap.size + 1, 2, none⟩ = some (.int .u16 0) := (cell_of_block z.out rfl); have z3 : w7.cell? ⟨w.heap.size + 1, 3, none⟩ = some (.int .u32 0) := (cell_of_block z.out rfl); have z4 : w7.cell? ⟨w.heap.size + 1, 4, none⟩ = some (.slice none 0 0) := (cell_of_block z.out rfl); have z5 : w7.cell? ⟨w.heap.size + 1, 5, none⟩ = some (.slice none 0 0) := (cell_of_block z.out rfl); have z6 : w7.cell? ⟨w.heap.size + 1, 6, none⟩ = some (.slice none 0 0) := (cell_of_block z.out rfl); have z7 : w7.cell? ⟨w.heap.size + 1, 7, none⟩ = some (.slice none 0 0) := (cell_of_block z.out rfl); have f0 : w7.frozen? ⟨w.heap.size + 1, 0, none⟩ = false := (frozen_of_block z.out); have f1 : w7.frozen? ⟨w.heap.size + 1, 1, none⟩ = false := (frozen_of_block z.out); have f2 : w7.frozen? ⟨w.heap.size + 1, 2, none⟩ = false := (frozen_of_block z.out); have f3 : w7.frozen? ⟨w.heap.size + 1, 3, none⟩ = false := (frozen_of_block z.out); have f4 : w7.frozen? ⟨w.heap.size + 1, 4, none⟩ = false := (frozen_of_block z.out); have f5 : w7.frozen? ⟨w.heap.size + 1, 5, none⟩ = false := (frozen_of_block z.out); have f6 : w7.frozen? ⟨w.heap.size + 1, 6, none⟩ = false := (frozen_of_block z.out); have f7 : w7.frozen? ⟨w.heap.size + 1, 7, none⟩ = false := (frozen_of_block z.out); have p7 := block_lt z.out)
    | fail)
  have z8 : ((((((((w7.setCell ⟨w.heap.size + 1, 0, none⟩ (.slice none 0 0)).setCell ⟨w.heap.size + 1, 1, none⟩ (.int .u16 41)).setCell ⟨w.heap.size + 1, 2, none⟩ (.int .u16 sz)).setCell ⟨w.heap.size + 1, 3, none⟩ (.int .u32 T)).setCell ⟨w.heap.size + 1, 4, none⟩ (.slice none 0 0)).setCell ⟨w.heap.size + 1, 5, none⟩ (.slice none 0 0)).setCell ⟨w.heap.size + 1, 6, none⟩ (.slice none 0 0)).setCell ⟨w.heap.size + 1, 7, none⟩ (.slice (some ⟨g7, 0, none⟩) n n)).heap[w.heap.size + 1]? = some (.cells #[.slice none 0 0, .int .u16 41, .int .u16 sz, .int .u32 T, .slice none 0 0, .slice none 0 0, .slice none 0 0, .slice (some ⟨g7, 0, none⟩) n n] 37) := by
    exact put8 z.out _ _ _ _ _ _ _ _
  have HO8 : Hid (∀ j, j ≠ w.heap.size + 1 → ((((((((w7.setCell ⟨w.heap.size + 1, 0, none⟩ (.slice none 0 0)).setCell ⟨w.heap.size + 1, 1, none⟩ (.int .u16 41)).setCell ⟨w.heap.size + 1, 2, none⟩ (.int .u16 sz)).setCell ⟨w.heap.size + 1, 3, none⟩ (.int .u32 T)).setCell ⟨w.heap.size + 1, 4, none⟩ (.slice none 0 0)).setCell ⟨w.heap.size + 1, 5, none⟩ (.slice none 0 0)).setCell ⟨w.heap.size + 1, 6, none⟩ (.slice none 0 0)).setCell ⟨w.heap.size + 1, 7, none⟩ (.slice (some ⟨g7, 0, none⟩) n n)).heap[j]? = w7.heap[j]?) := fun j hj => put8_other w7 (w.heap.size + 1) _ _ _ _ _ _ _ _ j hj
  have HB8 : Hid (Below V.heap.size V w7 ∧ Below (w.heap.size + 1) w7 ((((((((w7.setCell ⟨w.heap.size + 1, 0, none⟩ (.slice none 0 0)).setCell ⟨w.heap.size + 1, 1, none⟩ (.int .u16 41)).setCell ⟨w.heap.size + 1, 2, none⟩ (.int .u16 sz)).setCell ⟨w.heap.size + 1, 3, none⟩ (.int .u32 T)).setCell ⟨w.heap.size + 1, 4, none⟩ (.slice none 0 0)).setCell ⟨w.heap.size + 1, 5, none⟩ (.slice none 0 0)).setCell ⟨w.heap.size + 1, 6, none⟩ (.slice none 0 0)).setCell ⟨w.heap.size + 1, 7, none⟩ (.slice (some ⟨g7, 0, none⟩) n n))) := ⟨HB7.out, put8_below w7 (w.heap.size + 1) _ _ _ _ _ _ _ _⟩
  generalize ((((((((w7.setCell ⟨w.heap.size + 1, 0, none⟩ (.slice none 0 0)).setCell ⟨w.heap.size + 1, 1, none⟩ (.int .u16 41)).setCell ⟨w.heap.size + 1, 2, none⟩ (.int .u16 sz)).setCell ⟨w.heap.size + 1, 3, none⟩ (.int .u32 T)).setCell ⟨w.heap.size + 1, 4, none⟩ (.slice none 0 0)).setCell ⟨w.heap.size + 1, 5, none⟩ (.slice none 0 0)).setCell ⟨w.heap.size + 1, 6, none⟩ (.slice none 0 0)).setCell ⟨w.heap.size + 1, 7, none⟩ (.slice (some ⟨g7, 0, none⟩) n n)) = w8 at *
  have y0 : w8.cell? ⟨w.heap.size + 1, 0, none⟩ = some (.slice none 0 0) := cell_of_block z8 rfl
  have y1 : w8.cell? ⟨w.heap.size + 1, 1, none⟩ = some (.int .u16 41) := cell_of_block z8 rfl
  have y2 : w8.cell? ⟨w.heap.size + 1, 2, none⟩ = some (.int .u16 sz) := cell_of_block z8 rfl
  have y3 : w8.cell? ⟨w.heap.size + 1, 3, none⟩ = some (.int .u32 T) := cell_of_block z8 rfl
  have y4 : w8.cell? ⟨w.heap.size + 1, 4, none⟩ = some (.slice none 0 0) := cell_of_block z8 rfl
  have y5 : w8.cell? ⟨w.heap.size + 1, 5, none⟩ = some (.slice none 0 0) := cell_of_block z8 rfl
  have y6 : w8.cell? ⟨w.heap.size + 1, 6, none⟩ = some (.slice none 0 0) := cell_of_block z8 rfl
  have y7 : w8.cell? ⟨w.heap.size + 1, 7, none⟩ = some (.slice (some ⟨g7, 0, none⟩) n n) := cell_of_block z8 rfl
  have y8 := block_lt z8
  clear z8 z0 f0 z1 f1 z2 f2 z3 f3 z4 f4 z5 f5 z6 f6 z7 f7 KS KZ
  go_wp2
  have hs := HV.out.2.2.2
  have hv6 := HB6.out.size
  have hg7 := H7.out.1
  have hblk : Blk w8 g7 (obs os) := H7.out.2.1.same (HO8.out g7 (by omega))
  have hsay := HSY.out
  have hcap : n ≤ 65535 := by rw [HN.out]; exact hsay.2.2.2
  refine bodyPost_ret (v := .tuple #[.agg #[.slice none 0 0, .int .u16 41, .int .u16 sz, .int .u32 T, .slice none 0 0, .slice none 0 0, .slice none 0 0, .slice (some ⟨g7, 0, none⟩) n n], .int .i64 0]) ?_ rfl ⟨⟨nilS, ⟨nilS, nilS, nilS, ⟨some ⟨g7, 0, none⟩, n, n⟩⟩⟩, ?_, ⟨?_, ?_⟩, ?_⟩
  · simp [results, Try.results11, go_sem, y0, y1, y2, y3, y4, y5, y6, y7]
  · rw [HR.out]
    have e1 : ((sz.toNat : Nat) : Int) = sz := Int.toNat_of_nonneg hz1.1
    simp only [recCells, nilS, e1, HT.out]
    rfl
  · rw [HR.out]; exact nil_t _
  · rw [HR.out]
    exact ⟨⟨.inl rfl, rfl, ⟨Nat.le_refl _, by simp [nilS]⟩, fun _ => rfl⟩, ⟨.inl rfl, rfl, ⟨Nat.le_refl _, by simp [nilS]⟩, fun _ => rfl, fun x hx => (by cases hx)⟩, nil_t _, hblk.brd HN.out.symm (by omega)⟩
  · exact (HV.out.1.trans (HB8.out.1.mono (by omega))).trans (HB8.out.2.mono (by omega))
end Go.Proofs.Ytgeoadkcmbageaa
namespace Go.Proofs.Ytgeoadkcmbageaa
open Go.ChangeShapes Go.WideShapes Go.ChangeAt Go.RowKit
set_option linter.unusedVariables false
set_option linter.unusedSimpArgs false
theorem two_of {zs : List Int} {p : Nat} (h : p + 2 ≤ zs.length) : (zs.drop p).take 2 = [zs[p], zs[p + 1]] := by
  rw [List.drop_eq_getElem_cons (by omega), List.drop_eq_getElem_cons (by omega)]
  rfl
theorem four_of {zs : List Int} {p : Nat} (h : p + 4 ≤ zs.length) : zs.drop p = zs[p] :: zs[p + 1] :: zs[p + 2] :: zs[p + 3] :: zs.drop (p + 4) := by
  rw [List.drop_eq_getElem_cons (by omega), List.drop_eq_getElem_cons (by omega), List.drop_eq_getElem_cons (by omega), List.drop_eq_getElem_cons (by omega)]
theorem tkE_some {zs : List Int} {p n : Nat} (h : p + n ≤ zs.length) : tk zs (some p) (n : Int) = (zs.drop p).take n := by
  simp only [tk]
  rw [if_pos ⟨by omega, by omega⟩, Int.toNat_natCast]
theorem mvE_some {len p n : Nat} (h : p + n ≤ len) : mv len (some p) (n : Int) = some (p + n) := by
  simp only [mv]
  rw [if_pos ⟨by omega, by omega⟩, Int.toNat_natCast]
theorem mvE_off {len p n : Nat} (h : ¬ p + n ≤ len) : mv len (some p) (n : Int) = none := by
  simp only [mv]
  rw [if_neg (by omega)]
/-- One option more. -/
theorem read_step {zs : List Int} (hb : ∀ z ∈ zs, 0 ≤ z ∧ z ≤ 255) {p : Nat} (hp : p < zs.length) {st1 st2 st3 : Option Nat} {c n : Int} {d : List Int} (h1 : st1 = mv zs.length (some p) 2) (hc : c = val (tk zs (some p) 2)) (hn : n = val (tk zs st1 2)) (h2 : st2 = mv zs.length st1 2) (hd : d = tk zs st2 n) (h3 : st3 = mv zs.length st2 n) :
    (st3 = none ∧ gopt (zs.drop p) = none) ∨ (∃ q, st3 = some q ∧ p + 4 ≤ q ∧ q ≤ zs.length ∧ gopt (zs.drop p) = (gopt (zs.drop q)).map (⟨c.toNat, d⟩ :: ·)) := by
  by_cases g1 : p + 2 ≤ zs.length
  · rw [show (2 : Int) = ((2 : Nat) : Int) from rfl, mvE_some g1] at h1
    subst h1
    rw [show (2 : Int) = ((2 : Nat) : Int) from rfl, tkE_some g1, two_of g1] at hc
    by_cases g2 : p + 2 + 2 ≤ zs.length
    · rw [show (2 : Int) = ((2 : Nat) : Int) from rfl, mvE_some g2] at h2
      subst h2
      rw [show (2 : Int) = ((2 : Nat) : Int) from rfl, tkE_some g2, two_of g2] at hn
      have g4 : p + 4 ≤ zs.length := by omega
      have b0 := hb zs[p] (List.getElem_mem _)
      have b1 := hb zs[p + 1] (List.getElem_mem _)
      have b2 := hb zs[p + 2] (List.getElem_mem _)
      have b3 := hb zs[p + 3] (List.getElem_mem _)
      have hc' : c = 256 * zs[p] + zs[p + 1] := by rw [hc]; simp [val]; omega
      have hn' : n = 256 * zs[p + 2] + zs[p + 3] := by rw [hn]; simp [val]; omega
      obtain ⟨m, rfl⟩ : ∃ m : Nat, n = (m : Int) := ⟨n.toNat, by omega⟩
      have e4 := four_of g4
      have hg := gopt_four zs[p] zs[p + 1] zs[p + 2] zs[p + 3] (zs.drop (p + 4))
      rw [← hn', ← hc', Int.toNat_natCast, ← e4] at hg
      by_cases g5 : p + 4 + m ≤ zs.length
      · refine .inr ⟨p + 4 + m, ?_, by omega, g5, ?_⟩
        · rw [h3, mvE_some (by omega)]
        · rw [hg, if_pos (by simp; omega), List.drop_drop, hd, tkE_some (by omega)]
      · refine .inl ⟨?_, ?_⟩
        · rw [h3, mvE_off (by omega)]
        · rw [hg, if_neg (by simp; omega)]
    · rw [show (2 : Int) = ((2 : Nat) : Int) from rfl, mvE_off g2] at h2
      subst h2
      refine .inl ⟨by rw [h3]; rfl, gopt_short (by simp; omega) (by simp; omega)⟩
  · rw [show (2 : Int) = ((2 : Nat) : Int) from rfl, mvE_off g1] at h1
    subst h1
    refine .inl ⟨by rw [h3, h2]; rfl, gopt_short (by simp; omega) (by simp; omega)⟩
theorem tk_val2 {zs : List Int} (hb : ∀ z ∈ zs, 0 ≤ z ∧ z ≤ 255) (st : Option Nat) : 0 ≤ val (tk zs st 2) ∧ val (tk zs st 2) ≤ 65535 := by
  have h1 := tk_bytes zs st 2 hb
  have h2 := tk_len zs st 2
  have h3 := val_bd _ h1
  have h4 : (256 : Int) ^ (tk zs st 2).length ≤ 256 ^ 2 := by
    have h5 : (tk zs st 2).length ≤ 2 := h2
    rcases (show (tk zs st 2).length = 0 ∨ (tk zs st 2).length = 1 ∨ (tk zs st 2).length = 2 by omega) with h | h | h <;> rw [h] <;> decide
  omega
/-- An option's bytes, in a block of their own, beside a list's. -/
def ODt (B : Nat) (w : World) (g : Option Nat) (x : Sl) (zs : List Int) : Prop := BRd w x zs ∧ (zs = [] ∨ ∃ b o, x.a = some ⟨b, o, none⟩ ∧ B ≤ b ∧ b < w.heap.size ∧ some b ≠ g)
theorem ODt.go {B : Nat} {w w' : World} {g g' : Option Nat} {x : Sl} {zs : List Int} (h : ODt B w g x zs) (hs : w.heap.size ≤ w'.heap.size) (hb : ∀ j, B ≤ j → j < w.heap.size → some j ≠ g → w'.heap[j]? = w.heap[j]?) (hg : ∀ b, b < w.heap.size → some b ≠ g → some b ≠ g') : ODt B w' g' x zs := by
  obtain ⟨h1, h2⟩ := h
  rcases h2 with h2 | ⟨b, o, e1, e2, e3, e4⟩
  · exact ⟨⟨⟨.inl h2, h1.rd.2⟩, h1.len, h1.cap, h1.nil⟩, .inl h2⟩
  · refine ⟨⟨⟨?_, h1.rd.2⟩, h1.len, h1.cap, h1.nil⟩, .inr ⟨b, o, e1, e2, Nat.lt_of_lt_of_le e3 hs, hg b e3 e4⟩⟩
    rcases h1.rd.1 with h | ⟨b', o', g1, g2, g3⟩
    · exact .inl h
    · rw [e1] at g1
      cases g1
      refine .inr ⟨b, o, e1, Nat.lt_of_lt_of_le e3 hs, fun i hi => ?_⟩
      rw [← g3 i hi]
      simp only [World.cell?, hb b e2 e3 e4]
def oCells (x : Sl) (o : Opt) : List Value := [.int .u16 (o.cd : Int), .slice x.a x.n x.c]
def cellsO (ps : List (Sl × Opt)) : List Value := ps.flatMap fun p => oCells p.1 p.2
theorem cellsO_at (ps : List (Sl × Opt)) (k : Nat) (h : k < ps.length) (j : Nat) (hj : j < 2) : (cellsO ps)[k * 2 + j]? = (oCells ps[k].1 ps[k].2)[j]? := by
  induction ps generalizing k with
  | nil => simp at h
  | cons p ws ih =>
    have hc : cellsO (p :: ws) = oCells p.1 p.2 ++ cellsO ws := by simp [cellsO]
    have h8 : (oCells p.1 p.2).length = 2 := rfl
    rw [hc]
    cases k with
    | zero => rw [List.getElem?_append_left (by rw [h8]; omega)]; simp
    | succ k =>
      have := ih k (by simpa using h)
      rw [List.getElem?_append_right (by rw [h8]; omega), h8, show (k + 1) * 2 + j - 2 = k * 2 + j by omega, this]
      simp
theorem cellsO_app (a b : List (Sl × Opt)) : cellsO (a ++ b) = cellsO a ++ cellsO b := by simp [cellsO]
/-- A list of options of one's own. -/
def OwO (B : Nat) (w : World) (v : Value) (os : List Opt) : Prop :=
  ∃ ps : List (Sl × Opt), ps.map (·.2) = os ∧ w.ownsRow B 68 2 v ps.length (cellsO ps) ∧ ∀ p ∈ ps, ODt B w v.ownBlock p.1 p.2.d ∧ p.2.cd < 65536
theorem OwO.nil (B : Nat) (w : World) : OwO B w (.slice none 0 0) [] := ⟨[], rfl, ⟨rfl, .inl ⟨rfl, rfl⟩⟩, by simp⟩
theorem OwO.rd {B : Nat} {w : World} {v : Value} {os : List Opt} (h : OwO B w v os) : ∃ s : Sl, v = .slice s.a s.n s.c ∧ OsRd w s os := by
  obtain ⟨ps, rfl, h2, h3⟩ := h
  have hcd : ∀ o ∈ ps.map (·.2), o.cd < 65536 := by
    intro o ho
    obtain ⟨p, hp, rfl⟩ := List.mem_map.1 ho
    exact (h3 p hp).2
  rcases h2.2 with ⟨rfl, h0⟩ | ⟨g, cap, cur, rfl, hb, hg, k1, k2, k3, k4⟩
  · have : ps = [] := List.length_eq_zero_iff.1 h0
    subst this
    exact ⟨⟨none, 0, 0⟩, rfl, OsRd.none w⟩
  · refine ⟨⟨some ⟨g, 0, none⟩, ps.length, cap⟩, rfl, .inr ⟨g, 0, rfl, (Array.getElem?_eq_some_iff.1 hg).1, fun i hi => ?_⟩, by simp, ⟨k1, by simpa only [maxLen] using k2⟩, by simp, hcd⟩
    have hi' : i < ps.length := by simpa using hi
    have ad : ∀ j, (⟨g, 0, none⟩ : Addr).add j = ⟨g, 0 + j, none⟩ := fun j => by unfold Addr.add; split <;> simp_all
    have hgi : (ps.map (·.2))[i] = ps[i].2 := by simp
    rw [hgi]
    have c0 := h2.cells (g := g) rfl (i * 2 + 0) _ (cellsO_at ps i hi' 0 (by omega))
    have c1 := h2.cells (g := g) rfl (i * 2 + 1) _ (cellsO_at ps i hi' 1 (by omega))
    rw [ad] at c0 c1
    exact ⟨ps[i].1, c0, by rw [Nat.add_assoc]; exact c1, (h3 ps[i] (List.getElem_mem _)).1.1⟩
theorem inf68 : ∃ i, Try.prog.info? 68 = some i ∧ i.zero = some (.agg #[.int .u16 0, .slice none 0 0]) ∧ i.size = 2 ∧ i.bytes = 32 := by
  obtain ⟨i, h1, h2⟩ := Option.map_eq_some_iff.1 (show (Try.prog.info? 68).map (fun i => (i.zero, i.size, i.bytes)) = some (some (.agg #[.int .u16 0, .slice none 0 0]), 2, 32) by kernel_rfl)
  simp only [Prod.mk.injEq] at h2
  exact ⟨i, h1, h2.1, h2.2.1, h2.2.2⟩
theorem two_new (w : World) (a b : Value) (t : TypeId) : ∀ j u, [a, b][j]? = some u → (w.alloc (.cells #[a, b] t)).cell? ((⟨w.heap.size, 0, none⟩ : Addr).add j) = some u := by
  intro j u hu
  have ad : (⟨w.heap.size, 0, none⟩ : Addr).add j = ⟨w.heap.size, j, none⟩ := by unfold Addr.add; split <;> simp_all
  rw [ad]
  refine box_cell (heap_alloc_new w _) j u ?_
  simpa using hu
/-- Take, its bytes as a slice. -/
theorem take66 (g : Nat) (a : Option Addr) (len cap : Nat) (zs : List Int) (st : Option Nat) (n : Int) (w : World) (hs : RSt w g a len cap st) (hr : Rd w a zs) (hl : zs.length = len) (hc : len ≤ cap) (hm : len ≤ 140737488355328) (hd : a = none → cap = 0) (ho : Off a g) :
    Calls Try.prog 66 #[.pointer (some ⟨g, 0, none⟩), .int .i64 n] w fun e w' => ∃ x : Sl, e = .returned (.slice x.a x.n x.c) ∧ Hid (ODt w.heap.size w' none x (tk zs st n) ∧ RSt w' g a len cap (mv len st n) ∧ w.grownBy w' (some g)) := by
  have hz := tk_bytes zs st n hr.2
  refine (rtake_any g a len cap zs st n w hs hr hl hc hm hd ho).mono ?_
  rintro e w' ⟨v, ys, rfl, H⟩
  obtain ⟨h1, h2, h3, h4⟩ := H.out
  rcases h1 with ⟨rfl, e2, e3⟩ | ⟨q, rfl, e2, e3, e4, e5⟩
  · have hnil : tk zs st n = [] := List.length_eq_zero_iff.1 e2
    refine ⟨⟨none, 0, 0⟩, rfl, ⟨⟨⟨.inl hnil, hz⟩, by rw [hnil]; rfl, ⟨Nat.le_refl _, by simp⟩, fun _ => rfl⟩, .inl hnil⟩, h3, h4⟩
  · refine ⟨⟨some ⟨q, 0, none⟩, (tk zs st n).length, ys.length⟩, rfl, ⟨⟨⟨.inr ⟨q, 0, rfl, e3.lt, fun i hi => ?_⟩, hz⟩, rfl, ⟨e4, by simpa only [maxLen] using e5⟩, by simp⟩, .inr ⟨q, 0, rfl, e2, e3.lt, by simp⟩⟩, h3, h4⟩
    have := e3.cell i (by omega)
    rw [Nat.zero_add, this]
    congr 2
    have : (ys.take (tk zs st n).length)[i]? = (tk zs st n)[i]? := by rw [h2]
    rw [List.getElem?_take_of_lt hi, List.getElem?_eq_getElem (by omega), List.getElem?_eq_getElem hi] at this
    rw [List.getD_eq_getElem?_getD, List.getD_eq_getElem?_getD, List.getElem?_eq_getElem (by omega), List.getElem?_eq_getElem hi, this]
end Go.Proofs.Ytgeoadkcmbageaa
namespace Go.Proofs.Ytgeoadkcmbageaa
open Go.ChangeShapes Go.WideShapes Go.ChangeAt Go.RowKit
set_option linter.unusedVariables false
set_option linter.unusedSimpArgs false
def slN : Value → Nat
  | .slice _ n _ => n
  | _ => 0
/-- A reader over bytes, and what is kept beside it. -/
structure RI (w : World) (B gr : Nat) (a : Option Addr) (len ca : Nat) (zs : List Int) (st : Option Nat) (W : World) : Prop where
  st : RSt W gr a len ca st
  rd : Rd W a zs
  sz : B ≤ W.heap.size
  bl : Below w.heap.size w W
/-- What does not change. -/
structure RC (w : World) (B gr : Nat) (a : Option Addr) (len ca : Nat) (zs : List Int) : Prop where
  ln : zs.length = len
  cap : len ≤ ca
  most : len ≤ 140737488355328
  nil : a = none → ca = 0
  off : Off a gr
  lo : w.heap.size ≤ gr
  hi : gr < B
  ab : ∀ y o, a = some ⟨y, o, none⟩ → y < B
theorem RI.mv {w : World} {B gr : Nat} {a : Option Addr} {len ca : Nat} {zs : List Int} {st st' : Option Nat} {W W' : World} (c : RC w B gr a len ca zs) (h : RI w B gr a len ca zs st W) (hs : RSt W' gr a len ca st') (hg : W.grownBy W' (some gr)) : RI w B gr a len ca zs st' W' :=
  ⟨hs, h.rd.grown hg c.off, Nat.le_trans h.sz hg.size, h.bl.grown hg h.bl.size (fun q hq => by have := Option.some.inj hq; have := c.lo; omega)⟩
theorem RI.app {w : World} {B gr : Nat} {a : Option Addr} {len ca : Nat} {zs : List Int} {st : Option Nat} {W W2 W' : World} {g : Option Nat} (c : RC w B gr a len ca zs) (h : RI w B gr a len ca zs st W) (hb : Below W.heap.size W W2) (hg : W2.grownBy W' g) (hk : ∀ k, g = some k → B ≤ k) : RI w B gr a len ca zs st W' := by
  have h2 := h.bl.trans (hb.mono h.bl.size)
  have hlt := h.st.lt
  have hs := hb.size
  have c1 := c.lo
  have c2 := c.hi
  refine ⟨h.st.same ?_, ?_, Nat.le_trans h.sz (Nat.le_trans hb.size hg.size), h2.grown hg h2.size (fun q hq => by have := hk q hq; omega)⟩
  · rw [hg.block gr (by omega) (fun e => by have := hk gr e.symm; omega), hb.block gr hlt]
  · have hr := h.rd.below hb
    refine ⟨?_, hr.2⟩
    rcases hr.1 with e | ⟨y, o, e1, e2, e3⟩
    · exact .inl e
    · refine .inr ⟨y, o, e1, Nat.lt_of_lt_of_le e2 hg.size, fun i hi => ?_⟩
      rw [← e3 i hi]
      simp only [World.cell?, hg.block y e2 (fun e => by have := hk y e.symm; have := c.ab y o e1; omega)]
theorem ODt.up {B B' : Nat} {w : World} {g : Option Nat} {x : Sl} {zs : List Int} (h : ODt B' w none x zs) (hB : B ≤ B') (hg : ∀ k, g = some k → k < B') : ODt B w g x zs :=
  ⟨h.1, h.2.imp id (fun ⟨b, o, e1, e2, e3, _⟩ => ⟨b, o, e1, by omega, e3, fun e => by have := hg b e.symm; omega⟩)⟩
theorem ODt.stay {B : Nat} {w w' : World} {g : Option Nat} {x : Sl} {zs : List Int} (h : ODt B w g x zs) (hb : Below w.heap.size w w') : ODt B w' g x zs := h.go hb.size (fun j _ e2 _ => hb.block j e2) (fun _ _ h => h)
theorem OwO.mv {B gr : Nat} {w w' : World} {v : Value} {os : List Opt} (h : OwO B w v os) (hg : w.grownBy w' (some gr)) (hr : gr < B) : OwO B w' v os := by
  obtain ⟨ps, h1, h2, h3⟩ := h
  refine ⟨ps, h1, h2.kept hg ?_, fun p hp => ⟨(h3 p hp).1.go hg.size (fun j e1 e2 e3 => hg.block j e2 (fun e => by injection e with e; omega)) (fun _ _ h => h), (h3 p hp).2⟩⟩
  refine .inr (fun e => ?_)
  have := (h2.lt gr e).1
  omega
theorem OwO.mono {B B' : Nat} {w : World} {v : Value} {os : List Opt} (h : OwO B w v os) (hB : B' ≤ B) : OwO B' w v os := by
  obtain ⟨ps, h1, h2, h3⟩ := h
  exact ⟨ps, h1, ownsRow_low h2 hB, fun p hp => ⟨⟨(h3 p hp).1.1, (h3 p hp).1.2.imp id (fun ⟨b, o, e1, e2, e3⟩ => ⟨b, o, e1, by omega, e3⟩)⟩, (h3 p hp).2⟩⟩
theorem OwO.stay {B : Nat} {w w' : World} {v : Value} {os : List Opt} (h : OwO B w v os) (hb : Below w.heap.size w w') : OwO B w' v os := by
  obtain ⟨ps, h1, h2, h3⟩ := h
  exact ⟨ps, h1, ownsRow_stays h2 hb, fun p hp => ⟨(h3 p hp).1.go hb.size (fun j e1 e2 e3 => hb.block j e2) (fun _ _ h => h), (h3 p hp).2⟩⟩
theorem OwO.push {B : Nat} {w w' : World} {v v' : Value} {ps : List (Sl × Opt)} {y : Sl} {o : Opt} (h3 : ∀ p ∈ ps, ODt B w v.ownBlock p.1 p.2.d ∧ p.2.cd < 65536) (hy : ODt B w v.ownBlock y o.d) (hc : o.cd < 65536) (h5 : w'.ownsRow B 68 2 v' (ps.length + 1) (cellsO ps ++ oCells y o)) (h6 : w.grownBy w' v.ownBlock) (h7 : v'.ownBlock = v.ownBlock ∨ v'.ownBlock = some w.heap.size) : OwO B w' v' (ps.map (·.2) ++ [o]) := by
  refine ⟨ps ++ [(y, o)], by simp, ?_, fun p hp => ?_⟩
  · rw [cellsO_app, List.length_append]
    have : cellsO [(y, o)] = oCells y o := by simp [cellsO]
    rw [this]
    exact h5
  · have hx : ODt B w v.ownBlock p.1 p.2.d ∧ p.2.cd < 65536 := by
      rcases List.mem_append.1 hp with hp | hp
      · exact h3 p hp
      · rw [List.mem_singleton.1 hp]; exact ⟨hy, hc⟩
    refine ⟨hx.1.go h6.size (fun j e1 e2 e3 => h6.block j e2 e3) (fun b hb hne => ?_), hx.2⟩
    rcases h7 with h7 | h7
    · rw [h7]; exact hne
    · rw [h7]; intro e; injection e with e; omega
/-- What is gathered: as much as was read, or that there is nothing to be read. -/
def RdI (B : Nat) (zs : List Int) (W : World) (v : Value) : Option Nat → Prop
  | some p => ∃ l, OwO B W v l ∧ gopt zs = (gopt (zs.drop p)).map (l ++ ·) ∧ 4 * l.length ≤ p
  | none => gopt zs = none
theorem row_slN {B e k n : Nat} {w : World} {v : Value} {xs : List Value} (h : w.ownsRow B e k v n xs) : slN v = n := by
  rcases h.2 with ⟨rfl, h0⟩ | ⟨g, cap, cur, rfl, _⟩
  · simp [slN, h0]
  · rfl
def RdE (zs : List Int) (w : World) (e : Ending) (w' : World) : Prop :=
  (∃ l, ∃ x : Sl, gopt zs = some l ∧ e = .returned (.tuple #[.slice x.a x.n x.c, .bool true]) ∧ Hid (OwO w.heap.size w' (.slice x.a x.n x.c) l ∧ Below w.heap.size w w')) ∨ (gopt zs = none ∧ e = .returned (.tuple #[.slice none 0 0, .bool false]) ∧ Hid (Below w.heap.size w w'))
theorem rdp_yes {zs : List Int} {w w' : World} {l : List Opt} {x : Sl} (h : gopt zs = some l) (h1 : OwO w.heap.size w' (.slice x.a x.n x.c) l) (h2 : Below w.heap.size w w') : RdE zs w (.returned (.tuple #[.slice x.a x.n x.c, .bool true])) w' := .inl ⟨l, x, h, rfl, h1, h2⟩
theorem rdp_no {zs : List Int} {w w' : World} (h : gopt zs = none) (h2 : Below w.heap.size w w') : RdE zs w (.returned (.tuple #[.slice none 0 0, .bool false])) w' := .inr ⟨h, rfl, h2⟩
theorem newE (s : Sl) (zs : List Int) (w : World) (h : BRd w s zs) (hm : s.n ≤ 140737488355328) : Calls Try.prog 63 #[(.slice s.a s.n s.c)] w fun e w' => ∃ gr a' ca, e = .returned (.pointer (some ⟨gr, 0, none⟩)) ∧ Hid (RC w w'.heap.size gr a' s.n ca zs ∧ RI w w'.heap.size gr a' s.n ca zs (some 0) w') := by
  have hl := h.len
  obtain ⟨sa, sn, sc⟩ := s
  simp only at *
  cases sa with
  | none =>
    have h0 := h.nil rfl
    simp only at h0
    have hn0 : sn = 0 := by have := h.cap.1; simp only at this; omega
    subst h0; subst hn0
    have : zs = [] := List.length_eq_zero_iff.1 hl
    subst this
    refine (new_none w).mono ?_
    rintro e w' ⟨gr, a', ca, rfl, H⟩
    obtain ⟨h1, h2, h3, h4, h5, h6, h7, h8⟩ := H.out
    exact ⟨gr, a', ca, rfl, ⟨rfl, h4, by omega, h5, h6, h1, h2.lt, fun y o e => (h7 y o e).2⟩, ⟨⟨h2, by omega⟩, h3, Nat.le_refl _, h8⟩⟩
  | some x =>
    have hr := h.rd
    subst hl
    refine (new_any x sc zs w hr hm).mono ?_
    rintro e w' ⟨gr, a', ca, rfl, H⟩
    obtain ⟨h1, h2, h3, h4, h5, h6, h7, h8⟩ := H.out
    exact ⟨gr, a', ca, rfl, ⟨rfl, h4, hm, h5, h6, h1, h2.lt, fun y o e => (h7 y o e).2⟩, ⟨⟨h2, by omega⟩, h3, Nat.le_refl _, h8⟩⟩
set_option maxRecDepth 100000 in
set_option maxHeartbeats 2000000 in
theorem read40 (s : Sl) (zs : List Int) (w : World) (h : BRd w s zs) (hm : s.n ≤ 1000000) : Calls Try.prog 40 #[(.slice s.a s.n s.c)] w (RdE zs w) := by
  have KN := Lib.hid (newE s zs w h (by omega))
  have HZB : Hid (∀ z ∈ zs, 0 ≤ z ∧ z ≤ 255) := h.rd.2
  clear h
  obtain ⟨sa, len, sc⟩ := s
  simp only at *
  obtain ⟨i68, hi, hz0, hz1, hz2⟩ := inf68
  have HI : Hid (Try.prog.info? 68 = some i68 ∧ i68.zero = some (.agg #[.int .u16 0, .slice none 0 0]) ∧ i68.size = 2 ∧ i68.bytes = 32) := ⟨hi, hz0, hz1, hz2⟩
  clear hi hz0 hz1 hz2
  go_enter Try.func40, Try.ntmps40
  go_wp2_with fail
  refine KN.out.mono ?_
  rintro e w1 ⟨gr, a, ca, rfl, H1⟩
  obtain ⟨B, hB⟩ : ∃ B, B = w1.heap.size := ⟨_, rfl⟩
  rw [← hB] at H1
  have HC : Hid (RC w B gr a len ca zs) := H1.out.1
  have HR1 : Hid (RI w B gr a len ca zs (some 0) w1) := H1.out.2
  clear H1 KN hB
  go_wp2_with fail
  go_loopw [4] (fun v wr => ∃ st, Hid (RI w B gr a len ca zs st wr) ∧ Hid (RdI B zs wr v st)) (fun v _ => len + 10 - slN v)
  case atStart => exact ⟨some 0, HR1.out, ⟨[], OwO.nil _ _, by simp, by simp⟩⟩
  case round =>
    obtain ⟨st, HR, HD⟩ := hrel
    have K64 := Lib.hid (rleft_any gr a len ca zs st wr HR.out.st HR.out.rd HC.out.ln HC.out.cap HC.out.most HC.out.nil HC.out.off)
    cases st with
    | none =>
      simp only [lft] at K64
      go_wp2_with fail
      refine K64.out.mono ?_
      rintro e w2 ⟨rfl, H2⟩
      have HR2 : Hid (RI w B gr a len ca zs none w2) := HR.out.mv HC.out H2.out.1 H2.out.2
      have K67 := Lib.hid (rbad_any gr a len ca zs none w2 HR2.out.st HR2.out.rd HC.out.ln HC.out.cap HC.out.most HC.out.nil HC.out.off)
      simp only [Option.isNone_none] at K67
      clear K64 H2
      go_wp2_with fail
      refine K67.out.mono ?_
      rintro e w3 ⟨rfl, H3⟩
      have HR3 : Hid (RI w B gr a len ca zs none w3) := HR2.out.mv HC.out H3.out.1 H3.out.2
      clear K67 H3
      go_wp2_with fail
      exact bodyPost_ret (v := .tuple #[.slice none 0 0, .bool false]) (by simp [results, Try.results40, go_sem]) rfl (rdp_no HD.out HR3.out.bl)
    | some p =>
      have hple : p ≤ len := HR.out.st.le p rfl
      simp only [lft] at K64
      by_cases hlt : p < len
      · have hlt' : (0 : Int) < (len : Int) - (p : Int) := by omega
        go_wp2_with fail
        refine K64.out.mono ?_
        rintro e w2 ⟨rfl, H2⟩
        have HR2 : Hid (RI w B gr a len ca zs (some p) w2) := HR.out.mv HC.out H2.out.1 H2.out.2
        obtain ⟨l, h1, h2, h3⟩ := HD.out
        have HO2 : Hid (OwO B w2 u4 l) := h1.mv H2.out.2 HC.out.hi
        have HG : Hid (gopt zs = (gopt (zs.drop p)).map (l ++ ·) ∧ 4 * l.length ≤ p) := ⟨h2, h3⟩
        clear h1 h2 h3 H2 HR HD K64
        have hv1 := tk_val2 HZB.out (some p)
        obtain ⟨c, hc⟩ : ∃ c : Nat, (c : Int) = val (tk zs (some p) 2) := ⟨(val (tk zs (some p) 2)).toNat, by omega⟩
        obtain ⟨st1, hst1⟩ : ∃ st1, st1 = mv len (some p) 2 := ⟨_, rfl⟩
        have K1 := Lib.hid (ru16_any gr a len ca zs (some p) w2 HR2.out.st HR2.out.rd HC.out.ln HC.out.cap HC.out.most HC.out.nil HC.out.off)
        rw [← hc, ← hst1] at K1
        have hcb : c ≤ 65535 := by omega
        have hcw : IntKind.u16.wrap (c : Int) = (c : Int) := by rw [IntKind.wrap_u16]; omega
        have HE1 : Hid ((c : Int) = val (tk zs (some p) 2) ∧ st1 = mv len (some p) 2) := ⟨hc, hst1⟩
        clear hv1 hc hst1
        go_wp2_with fail
        refine K1.out.mono ?_
        rintro e w3 ⟨rfl, H3⟩
        have HR3 : Hid (RI w B gr a len ca zs st1 w3) := HR2.out.mv HC.out H3.out.1 H3.out.2
        have HO3 : Hid (OwO B w3 u4 l) := HO2.out.mv H3.out.2 HC.out.hi
        obtain ⟨n, hn⟩ : ∃ n : Int, n = val (tk zs st1 2) := ⟨_, rfl⟩
        obtain ⟨st2, hst2⟩ : ∃ st2, st2 = mv len st1 2 := ⟨_, rfl⟩
        have K2 := Lib.hid (ru16_any gr a len ca zs st1 w3 HR3.out.st HR3.out.rd HC.out.ln HC.out.cap HC.out.most HC.out.nil HC.out.off)
        rw [← hn, ← hst2] at K2
        have HE2 : Hid (n = val (tk zs st1 2) ∧ st2 = mv len st1 2) := ⟨hn, hst2⟩
        clear hn hst2 K1 H3 HO2 HR2
        go_wp2_with fail
        refine K2.out.mono ?_
        rintro e w4 ⟨rfl, H4⟩
        have HR4 : Hid (RI w B gr a len ca zs st2 w4) := HR3.out.mv HC.out H4.out.1 H4.out.2
        have HO4 : Hid (OwO B w4 u4 l) := HO3.out.mv H4.out.2 HC.out.hi
        obtain ⟨d, hd⟩ : ∃ d, d = tk zs st2 n := ⟨_, rfl⟩
        obtain ⟨st3, hst3⟩ : ∃ st3, st3 = mv len st2 n := ⟨_, rfl⟩
        have K3 := Lib.hid (take66 gr a len ca zs st2 n w4 HR4.out.st HR4.out.rd HC.out.ln HC.out.cap HC.out.most HC.out.nil HC.out.off)
        rw [← hd, ← hst3] at K3
        have HE3 : Hid (d = tk zs st2 n ∧ st3 = mv len st2 n) := ⟨hd, hst3⟩
        clear hd hst3 K2 H4 HO3 HR3
        go_wp2_with fail
        refine K3.out.mono ?_
        rintro e w5 ⟨⟨ya, yn, yc⟩, rfl, H5⟩
        have HR5 : Hid (RI w B gr a len ca zs st3 w5) := HR4.out.mv HC.out H5.out.2.1 H5.out.2.2
        have HO5 : Hid (OwO B w5 u4 l) := HO4.out.mv H5.out.2.2 HC.out.hi
        obtain ⟨ps, q1, q2, q3⟩ := HO5.out
        have hpl : ps.length = l.length := by rw [← q1]; simp
        have hbnd : ps.length ≤ 1000000 := by have := HG.out.2; omega
        have HPS : Hid (ps.map (·.2) = l ∧ ∀ q ∈ ps, ODt B w5 u4.ownBlock q.1 q.2.d ∧ q.2.cd < 65536) := ⟨q1, q3⟩
        have HPL : Hid (ps.length = l.length) := hpl
        have HOW0 : Hid (w5.ownsRow B 68 2 u4 ps.length (cellsO ps)) := q2
        have HOW : Hid ((w5.alloc (.cells #[.int .u16 (c : Int), .slice ya yn yc] 68)).ownsRow B 68 2 u4 ps.length (cellsO ps)) := q2.alloc _
        have HSZ : Hid (B ≤ (w5.alloc (.cells #[.int .u16 (c : Int), .slice ya yn yc] 68)).heap.size) := (show B ≤ _ by rw [World.size_alloc]; have := HR5.out.sz; omega)
        have HN := Lib.hid (two_new w5 (.int .u16 (c : Int)) (.slice ya yn yc) 68)
        clear q1 q2 q3 hpl K3
        go_wp2_with (at_builtin; refine wpList_append_own_at _ rfl _ _ 22 rfl B 68 i68 _ 2 32 Try.underlying22 HI.out.1 HI.out.2.1 HI.out.2.2.1 HI.out.2.2.2 rfl (by omega) _ ps.length _ rfl HOW.out ⟨w5.heap.size, 0, none⟩ 1 1 [.int .u16 (c : Int), .slice ya yn yc] rfl rfl HN.out (by simp [Value.oneCell']) (by simp only [maxLen]; omega) (by omega) HSZ.out ?_; intro v' w' h5 h6 _ h7; have H6 := Lib.hid h5; have H7 := Lib.hid h6; have H8 := Lib.hid h7; clear h5 h6 h7)
        have hna := newE_below w5 (.cells #[.int .u16 (c : Int), .slice ya yn yc] 68)
        have hlt0 := HOW0.out.lt
        have hlt4 : ∀ k, u4.ownBlock = some k → k < w4.heap.size := by
          obtain ⟨_, _, r2, _⟩ := HO4.out
          exact fun k e => (r2.lt k e).2
        have hsl : slN v' = ps.length + 1 := row_slN H6.out
        have hsl0 : slN u4 = ps.length := row_slN HOW0.out
        have hpush : OwO B w' v' (l ++ [⟨c, d⟩]) := by
          rw [← HPS.out.1]
          exact OwO.push (w := w5.alloc (.cells #[.int .u16 (c : Int), .slice ya yn yc] 68)) (v := u4) (y := ⟨ya, yn, yc⟩) (o := ⟨c, d⟩) (fun q hq => ⟨(HPS.out.2 q hq).1.stay hna, (HPS.out.2 q hq).2⟩) ((H5.out.1.up HR4.out.sz hlt4).stay hna) (by simp only; omega) H6.out H7.out H8.out
        refine ⟨⟨st3, HR5.out.app HC.out hna H7.out (fun k e => (hlt0 k e).1), ?_⟩, ?_⟩
        · have e1 := HE1.out
          have e2 := HE2.out
          have e3 := HE3.out
          have hlen := HC.out.ln
          subst hlen
          rcases read_step HZB.out hlt e1.2 e1.1 e2.1 e2.2 e3.1 e3.2 with ⟨rfl, f2⟩ | ⟨q, rfl, f2, f3, f4⟩
          · show gopt zs = none
            rw [HG.out.1, f2]
            rfl
          · refine ⟨l ++ [⟨c, d⟩], hpush, ?_, ?_⟩
            · rw [HG.out.1, f4, Option.map_map]
              congr 1
              funext r
              simp
            · have := HG.out.2
              simp
              omega
        · rw [hsl, hsl0]
          have := HG.out.2
          have := HPL.out
          omega
      · have hpe : p = len := by omega
        subst hpe
        have hsub : (p : Int) - (p : Int) = 0 := by omega
        rw [hsub] at K64
        go_wp2_with fail
        refine K64.out.mono ?_
        rintro e w2 ⟨rfl, H2⟩
        have HR2 : Hid (RI w B gr a p ca zs (some p) w2) := HR.out.mv HC.out H2.out.1 H2.out.2
        have K67 := Lib.hid (rbad_any gr a p ca zs (some p) w2 HR2.out.st HR2.out.rd HC.out.ln HC.out.cap HC.out.most HC.out.nil HC.out.off)
        simp only [Option.isNone_some] at K67
        obtain ⟨l, h1, h2, h3⟩ := HD.out
        rw [List.drop_of_length_le (by rw [HC.out.ln]; exact Nat.le_refl _)] at h2
        have HG : Hid (gopt zs = some l) := (show _ = _ by rw [h2]; simp [gopt_nil])
        have HO2 : Hid (OwO B w2 u4 l) := h1.mv H2.out.2 HC.out.hi
        clear K64 H2 h1 h2 h3 HD hsub
        go_wp2_with fail
        refine K67.out.mono ?_
        rintro e w3 ⟨rfl, H3⟩
        have HR3 : Hid (RI w B gr a p ca zs (some p) w3) := HR2.out.mv HC.out H3.out.1 H3.out.2
        have HO3 : Hid (OwO B w3 u4 l) := HO2.out.mv H3.out.2 HC.out.hi
        clear K67 H3
        have HX0 : Hid (OwO w.heap.size w3 u4 l) := HO3.out.mono (by have := HC.out.lo; have := HC.out.hi; omega)
        obtain ⟨x, hx, _⟩ := HO3.out.rd
        subst hx
        have HX : Hid (OwO w.heap.size w3 (.slice x.a x.n x.c) l) := HX0.out
        go_wp2_with fail
        exact bodyPost_ret (v := .tuple #[.slice x.a x.n x.c, .bool true]) (by simp [results, Try.results40, go_sem]) rfl (rdp_yes HG.out HX.out HR3.out.bl)
end Go.Proofs.Ytgeoadkcmbageaa
namespace Go.Proofs.Ytgeoadkcmbageaa
open Go.ChangeShapes Go.WideShapes Go.ChangeAt Go.RowKit
set_option linter.unusedVariables false
set_option linter.unusedSimpArgs false
set_option maxRecDepth 100000 in
set_option maxHeartbeats 2000000 in
theorem isopt53 (x : RA) (r : Rec) (w : World) : Calls Try.prog 53 #[.agg (recCells x r).toArray] w fun e w' => e = .returned (.bool (decide (r.t = 41))) ∧ Hid (Below w.heap.size w w') := by
  obtain ⟨⟨oa, on, oc⟩, ⟨⟨a1, n1, c1⟩, ⟨a2, n2, c2⟩, ⟨a3, n3, c3⟩, ⟨a4, n4, c4⟩⟩⟩ := x
  obtain ⟨ow, t, cl, tt, d⟩ := r
  show Calls Try.prog 53 #[.agg #[.slice oa on oc, .int .u16 (t : Int), .int .u16 (cl : Int), .int .u32 (tt : Int), .slice a1 n1 c1, .slice a2 n2 c2, .slice a3 n3 c3, .slice a4 n4 c4]] w _
  have HB : Hid (Below w.heap.size w (w.alloc (.cells #[.slice oa on oc, .int .u16 (t : Int), .int .u16 (cl : Int), .int .u32 (tt : Int), .slice a1 n1 c1, .slice a2 n2 c2, .slice a3 n3 c3, .slice a4 n4 c4] 37))) := newE_below _ _
  have hbx : (w.alloc (.cells #[.slice oa on oc, .int .u16 (t : Int), .int .u16 (cl : Int), .int .u32 (tt : Int), .slice a1 n1 c1, .slice a2 n2 c2, .slice a3 n3 c3, .slice a4 n4 c4] 37)).heap[w.heap.size]? = some (.cells #[.slice oa on oc, .int .u16 (t : Int), .int .u16 (cl : Int), .int .u32 (tt : Int), .slice a1 n1 c1, .slice a2 n2 c2, .slice a3 n3 c3, .slice a4 n4 c4] 37) := heap_alloc_new _ _
  have k1 := box_cell hbx 1 _ rfl
  have hlD := box_lt hbx
  clear hbx
  by_cases h : t = 41
  · subst h
    go_enter Try.func53, Try.ntmps53
    go_wp2
    go_ret
    exact ⟨rfl, HB.out⟩
  · have h2 : ((t : Int) == 41) = false := by simp; omega
    have h3 : ¬ (t : Int) = 41 := by omega
    go_enter Try.func53, Try.ntmps53
    go_wp2
    go_ret
    exact ⟨by simp [h], HB.out⟩
/-- A record is in the form, but for its options. -/
def InF (x : RA) (r : Rec) : Prop := r.t = 41 ∧ x.o.n = 0 ∧ r.tt % 32768 = 0 ∧ x.d.p1.n = 0 ∧ x.d.p2.n = 0 ∧ x.d.p3.n = 0 ∧ x.d.p4.n ≤ 65535
instance (x : RA) (r : Rec) : Decidable (InF x r) := by unfold InF; infer_instance
set_option maxRecDepth 100000 in
set_option maxHeartbeats 4000000 in
theorem inform39 (x : RA) (r : Rec) (w : World) (hc : r.tt < 4294967296) : Calls Try.prog 39 #[.agg (recCells x r).toArray] w fun e w' => e = .returned (.bool (decide (InF x r))) ∧ Hid (Below w.heap.size w w') := by
  have K53 := fun W => Lib.hid (isopt53 x r W)
  obtain ⟨B, hB⟩ : ∃ B, B = decide (InF x r) := ⟨_, rfl⟩
  have hB1 : ¬ InF x r → B = false := fun h => by rw [hB]; exact decide_eq_false h
  have hB2 : InF x r → B = true := fun h => by rw [hB]; exact decide_eq_true h
  rw [← hB]
  clear hB
  unfold InF at hB1 hB2
  obtain ⟨⟨oa, on, oc⟩, ⟨⟨a1, n1, c1⟩, ⟨a2, n2, c2⟩, ⟨a3, n3, c3⟩, ⟨a4, n4, c4⟩⟩⟩ := x
  obtain ⟨ow, t, cl, tt, d⟩ := r
  simp only [recCells] at K53 hB1 hB2 hc
  show Calls Try.prog 39 #[.agg #[.slice oa on oc, .int .u16 (t : Int), .int .u16 (cl : Int), .int .u32 (tt : Int), .slice a1 n1 c1, .slice a2 n2 c2, .slice a3 n3 c3, .slice a4 n4 c4]] w _
  have HIN : Hid ((¬ (t = 41 ∧ on = 0 ∧ tt % 32768 = 0 ∧ n1 = 0 ∧ n2 = 0 ∧ n3 = 0 ∧ n4 ≤ 65535) → B = false) ∧ ((t = 41 ∧ on = 0 ∧ tt % 32768 = 0 ∧ n1 = 0 ∧ n2 = 0 ∧ n3 = 0 ∧ n4 ≤ 65535) → B = true)) := ⟨hB1, hB2⟩
  clear hB1 hB2
  obtain ⟨V, hV⟩ : ∃ V, V = (w.alloc (.cells #[.slice oa on oc, .int .u16 (t : Int), .int .u16 (cl : Int), .int .u32 (tt : Int), .slice a1 n1 c1, .slice a2 n2 c2, .slice a3 n3 c3, .slice a4 n4 c4] 37)).alloc (.cells #[.slice a1 n1 c1, .slice a2 n2 c2, .slice a3 n3 c3, .slice a4 n4 c4] 35) := ⟨_, rfl⟩
  have HV : Hid (Below w.heap.size w V ∧ V.heap[w.heap.size]? = some (.cells #[.slice oa on oc, .int .u16 (t : Int), .int .u16 (cl : Int), .int .u32 (tt : Int), .slice a1 n1 c1, .slice a2 n2 c2, .slice a3 n3 c3, .slice a4 n4 c4] 37) ∧ V.heap[w.heap.size + 1]? = some (.cells #[.slice a1 n1 c1, .slice a2 n2 c2, .slice a3 n3 c3, .slice a4 n4 c4] 35)) := by
    rw [hV]
    refine ⟨((Below.refl _ _).alloc (Nat.le_refl _) _).alloc (by simp) _, block_alloc (alloc_at _ _) _, ?_⟩
    have := alloc_at (w.alloc (.cells #[.slice oa on oc, .int .u16 (t : Int), .int .u16 (cl : Int), .int .u32 (tt : Int), .slice a1 n1 c1, .slice a2 n2 c2, .slice a3 n3 c3, .slice a4 n4 c4] 37)) (.cells #[.slice a1 n1 c1, .slice a2 n2 c2, .slice a3 n3 c3, .slice a4 n4 c4] 35)
    simp only [World.size_alloc] at this
    exact this
  go_enter Try.func39, Try.ntmps39
  go_wp2_with fail
  rw [← hV]
  clear hV
  obtain ⟨b, hb⟩ : ∃ b, b = w.heap.size := ⟨_, rfl⟩
  have HBB : Hid (b = w.heap.size) := hb
  have HV0 : Hid (Below w.heap.size w V) := HV.out.1
  have HV1 : Hid (V.heap[b]? = some (.cells #[.slice oa on oc, .int .u16 (t : Int), .int .u16 (cl : Int), .int .u32 (tt : Int), .slice a1 n1 c1, .slice a2 n2 c2, .slice a3 n3 c3, .slice a4 n4 c4] 37)) := (show _ = _ by rw [hb]; exact HV.out.2.1)
  have HV2 : Hid (V.heap[b + 1]? = some (.cells #[.slice a1 n1 c1, .slice a2 n2 c2, .slice a3 n3 c3, .slice a4 n4 c4] 35)) := (show _ = _ by rw [hb]; exact HV.out.2.2)
  rw [← hb]
  clear hb HV
  obtain ⟨v0, v1, v2, v3, v4, v5, v6, v7⟩ := (show V.cell? ⟨b, 0, none⟩ = some (.slice oa on oc) ∧ V.cell? ⟨b, 1, none⟩ = some (.int .u16 (t : Int)) ∧ V.cell? ⟨b, 2, none⟩ = some (.int .u16 (cl : Int)) ∧ V.cell? ⟨b, 3, none⟩ = some (.int .u32 (tt : Int)) ∧ V.cell? ⟨b, 4, none⟩ = some (.slice a1 n1 c1) ∧ V.cell? ⟨b, 5, none⟩ = some (.slice a2 n2 c2) ∧ V.cell? ⟨b, 6, none⟩ = some (.slice a3 n3 c3) ∧ V.cell? ⟨b, 7, none⟩ = some (.slice a4 n4 c4) from ⟨box_cell HV1.out 0 _ rfl, box_cell HV1.out 1 _ rfl, box_cell HV1.out 2 _ rfl, box_cell HV1.out 3 _ rfl, box_cell HV1.out 4 _ rfl, box_cell HV1.out 5 _ rfl, box_cell HV1.out 6 _ rfl, box_cell HV1.out 7 _ rfl⟩)
  have q0 := box_lt HV1.out
  go_wp2_with fail
  refine (K53 V).out.mono ?_
  rintro e w1 ⟨rfl, H1⟩
  have m1 := (H1.out.block b (box_lt HV1.out)).trans HV1.out
  have m2 := (H1.out.block (b + 1) (box_lt HV2.out)).trans HV2.out
  clear v0 v1 v2 v3 v4 v5 v6 v7
  have HB : Hid (Below w.heap.size w w1) := HV0.out.trans (H1.out.mono HV0.out.size)
  have k0 := box_cell m1 0 _ rfl
  have k3 := box_cell m1 3 _ rfl
  have l0 := box_cell m2 0 _ rfl
  have l1 := box_cell m2 1 _ rfl
  have l2 := box_cell m2 2 _ rfl
  have l3 := box_cell m2 3 _ rfl
  have s1 := box_lt m1
  have s2 := box_lt m2
  clear m1 m2 q0
  by_cases h0 : t = 41
  · rw [decide_eq_true h0]
    by_cases g0 : (on : Int) = 0
    · have e0 : (decide ((on : Int) = 0)) = true := decide_eq_true g0
      by_cases g1 : (tt : Int) % 32768 = 0
      · have e1 : (decide ((tt : Int) % 32768 = 0)) = true := decide_eq_true g1
        by_cases g2 : (n1 : Int) = 0
        · have e2 : (decide ((n1 : Int) = 0)) = true := decide_eq_true g2
          by_cases g3 : (n2 : Int) = 0
          · have e3 : (decide ((n2 : Int) = 0)) = true := decide_eq_true g3
            by_cases g4 : (n3 : Int) = 0
            · have e4 : (decide ((n3 : Int) = 0)) = true := decide_eq_true g4
              by_cases g5 : (n4 : Int) ≤ 65535
              · have e5 : (decide ((n4 : Int) ≤ 65535)) = true := decide_eq_true g5
                have hT : B = true := HIN.out.2 ⟨by omega, by omega, by omega, by omega, by omega, by omega, by omega⟩
                clear HIN
                subst hT
                go_wp2
                go_ret
                exact ⟨rfl, HB.out⟩
              · have hF : B = false := HIN.out.1 (by omega)
                clear HIN
                subst hF
                go_wp2
                go_ret
                exact ⟨(by show Ending.returned (Value.bool (decide ((n4 : Int) ≤ 65535))) = _; rw [decide_eq_false (by omega)]), HB.out⟩
            · have hF : B = false := HIN.out.1 (by omega)
              clear HIN
              subst hF
              go_wp2
              go_ret
              exact ⟨rfl, HB.out⟩
          · have hF : B = false := HIN.out.1 (by omega)
            clear HIN
            subst hF
            go_wp2
            go_ret
            exact ⟨rfl, HB.out⟩
        · have hF : B = false := HIN.out.1 (by omega)
          clear HIN
          subst hF
          go_wp2
          go_ret
          exact ⟨rfl, HB.out⟩
      · have hF : B = false := HIN.out.1 (by omega)
        clear HIN
        subst hF
        go_wp2
        go_ret
        exact ⟨rfl, HB.out⟩
    · have hF : B = false := HIN.out.1 (by omega)
      clear HIN
      subst hF
      go_wp2
      go_ret
      exact ⟨rfl, HB.out⟩
  · have hF : B = false := HIN.out.1 (by omega)
    rw [decide_eq_false h0]
    clear HIN
    subst hF
    go_wp2
    go_ret
    exact ⟨rfl, HB.out⟩
end Go.Proofs.Ytgeoadkcmbageaa
namespace Go.Proofs.Ytgeoadkcmbageaa
open Go.ChangeShapes Go.WideShapes Go.ChangeAt Go.RowKit
set_option linter.unusedVariables false
set_option linter.unusedSimpArgs false
theorem put5e {w : World} {g : Nat} {v0 v1 v2 v3 v4 : Value} {t : TypeId} (h : w.heap[g]? = some (.cells #[v0, v1, v2, v3, v4] t)) (x0 x1 x2 x3 x4 : Value) : (((((w.setCell ⟨g, 0, none⟩ x0).setCell ⟨g, 1, none⟩ x1).setCell ⟨g, 2, none⟩ x2).setCell ⟨g, 3, none⟩ x3).setCell ⟨g, 4, none⟩ x4).heap[g]? = some (.cells #[x0, x1, x2, x3, x4] t) := by
  have h0 : (w.setCell ⟨g, 0, none⟩ x0).heap[g]? = some (.cells #[x0, v1, v2, v3, v4] t) := heap_set h 0 x0
  have h1 : ((w.setCell ⟨g, 0, none⟩ x0).setCell ⟨g, 1, none⟩ x1).heap[g]? = some (.cells #[x0, x1, v2, v3, v4] t) := heap_set h0 1 x1
  have h2 : (((w.setCell ⟨g, 0, none⟩ x0).setCell ⟨g, 1, none⟩ x1).setCell ⟨g, 2, none⟩ x2).heap[g]? = some (.cells #[x0, x1, x2, v3, v4] t) := heap_set h1 2 x2
  have h3 : ((((w.setCell ⟨g, 0, none⟩ x0).setCell ⟨g, 1, none⟩ x1).setCell ⟨g, 2, none⟩ x2).setCell ⟨g, 3, none⟩ x3).heap[g]? = some (.cells #[x0, x1, x2, x3, v4] t) := heap_set h2 3 x3
  have h4 : (((((w.setCell ⟨g, 0, none⟩ x0).setCell ⟨g, 1, none⟩ x1).setCell ⟨g, 2, none⟩ x2).setCell ⟨g, 3, none⟩ x3).setCell ⟨g, 4, none⟩ x4).heap[g]? = some (.cells #[x0, x1, x2, x3, x4] t) := heap_set h3 4 x4
  exact h4
theorem put5e_below (w : World) (g : Nat) (x0 x1 x2 x3 x4 : Value) : Below g w (((((w.setCell ⟨g, 0, none⟩ x0).setCell ⟨g, 1, none⟩ x1).setCell ⟨g, 2, none⟩ x2).setCell ⟨g, 3, none⟩ x3).setCell ⟨g, 4, none⟩ x4) :=
  (((((Below.refl g w).setCell (p := ⟨g, 0, none⟩) (Nat.le_refl g) x0).setCell (p := ⟨g, 1, none⟩) (Nat.le_refl g) x1).setCell (p := ⟨g, 2, none⟩) (Nat.le_refl g) x2).setCell (p := ⟨g, 3, none⟩) (Nat.le_refl g) x3).setCell (p := ⟨g, 4, none⟩) (Nat.le_refl g) x4
theorem put5e_other (w : World) (g : Nat) (x0 x1 x2 x3 x4 : Value) (j : Nat) (h : j ≠ g) : (((((w.setCell ⟨g, 0, none⟩ x0).setCell ⟨g, 1, none⟩ x1).setCell ⟨g, 2, none⟩ x2).setCell ⟨g, 3, none⟩ x3).setCell ⟨g, 4, none⟩ x4).heap[j]? = w.heap[j]? := by
  rw [Below.heap_setCell _ _ _ _ h, Below.heap_setCell _ _ _ _ h, Below.heap_setCell _ _ _ _ h, Below.heap_setCell _ _ _ _ h, Below.heap_setCell _ _ _ _ h]
theorem and32 (a : Nat) (ha : a < 4294967296) : (bits .and .u32 (a : Int) 32768 != 0) = decide (a / 32768 % 2 = 1) := by
  have hx : a &&& 32768 < 2 ^ 32 := Nat.and_lt_two_pow _ (by omega)
  have h1 : (BitVec.ofInt 32 (a : Int)).toNat = a := by
    rw [BitVec.ofInt_natCast, BitVec.toNat_ofNat]; exact Nat.mod_eq_of_lt (by omega)
  have h2 : (BitVec.ofInt 32 32768).toNat = 32768 := by decide
  have h3 : bits .and .u32 (a : Int) 32768 = ((a &&& 32768 : Nat) : Int) := by
    show IntKind.u32.wrap ((BitVec.ofInt 32 (a : Int) &&& BitVec.ofInt 32 32768).toNat : Int) = _
    rw [BitVec.toNat_and, h1, h2, IntKind.wrap_u32]
    omega
  rw [h3, show 32768 = 2 ^ 15 from rfl, nat_and_bit]
  unfold unfl
  rw [show (2 : Nat) ^ 15 = 32768 from rfl]
  rcases Nat.mod_two_eq_zero_or_one (a / 32768) with h | h
  · simp [h]
  · simp [h]
/-- What a record says. -/
def edE (r : Rec) (l : List Opt) : Edn := ⟨(r.cl : Int), ((r.tt / 16777216 : Nat) : Int), ((r.tt % 16777216 / 65536 : Nat) : Int), decide (r.tt / 32768 % 2 = 1), l⟩
set_option maxRecDepth 100000 in
set_option maxHeartbeats 4000000 in
theorem read13_form (x : RA) (r : Rec) (w : World) (hc : r.tt < 4294967296) (hf : ¬ InF x r) : Calls Try.prog 13 #[.agg (recCells x r).toArray] w fun e w' => e = .returned (.tuple #[.agg #[.int .i64 0, .int .i64 0, .int .i64 0, .bool false, .slice none 0 0], .int .i64 8]) ∧ Hid (Below w.heap.size w w') := by
  have K39 := fun W => Lib.hid (inform39 x r W hc)
  have HF : Hid (decide (InF x r) = false) := decide_eq_false hf
  clear hf
  obtain ⟨⟨oa, on, oc⟩, ⟨⟨a1, n1, c1⟩, ⟨a2, n2, c2⟩, ⟨a3, n3, c3⟩, ⟨a4, n4, c4⟩⟩⟩ := x
  obtain ⟨ow, t, cl, tt, d⟩ := r
  simp only [recCells] at *
  show Calls Try.prog 13 #[.agg #[.slice oa on oc, .int .u16 (t : Int), .int .u16 (cl : Int), .int .u32 (tt : Int), .slice a1 n1 c1, .slice a2 n2 c2, .slice a3 n3 c3, .slice a4 n4 c4]] w _
  obtain ⟨V, hV⟩ : ∃ V, V = (w.alloc (.cells #[.slice oa on oc, .int .u16 (t : Int), .int .u16 (cl : Int), .int .u32 (tt : Int), .slice a1 n1 c1, .slice a2 n2 c2, .slice a3 n3 c3, .slice a4 n4 c4] 37)).alloc (.cells #[.int .i64 0, .int .i64 0, .int .i64 0, .bool false, .slice none 0 0] 24) := ⟨_, rfl⟩
  have HV : Hid (Below w.heap.size w V ∧ V.heap[w.heap.size]? = some (.cells #[.slice oa on oc, .int .u16 (t : Int), .int .u16 (cl : Int), .int .u32 (tt : Int), .slice a1 n1 c1, .slice a2 n2 c2, .slice a3 n3 c3, .slice a4 n4 c4] 37) ∧ V.heap[w.heap.size + 1]? = some (.cells #[.int .i64 0, .int .i64 0, .int .i64 0, .bool false, .slice none 0 0] 24)) := by
    rw [hV]
    refine ⟨((Below.refl _ _).alloc (Nat.le_refl _) _).alloc (by simp) _, block_alloc (alloc_at _ _) _, ?_⟩
    have := alloc_at (w.alloc (.cells #[.slice oa on oc, .int .u16 (t : Int), .int .u16 (cl : Int), .int .u32 (tt : Int), .slice a1 n1 c1, .slice a2 n2 c2, .slice a3 n3 c3, .slice a4 n4 c4] 37)) (.cells #[.int .i64 0, .int .i64 0, .int .i64 0, .bool false, .slice none 0 0] 24)
    simp only [World.size_alloc] at this
    exact this
  go_enter Try.func13, Try.ntmps13
  go_wp2_with fail
  rw [← hV]
  clear hV
  obtain ⟨b, hb⟩ : ∃ b, b = w.heap.size := ⟨_, rfl⟩
  have HBB : Hid (b = w.heap.size) := hb
  have HV0 : Hid (Below w.heap.size w V) := HV.out.1
  have HV1 : Hid (V.heap[b]? = some (.cells #[.slice oa on oc, .int .u16 (t : Int), .int .u16 (cl : Int), .int .u32 (tt : Int), .slice a1 n1 c1, .slice a2 n2 c2, .slice a3 n3 c3, .slice a4 n4 c4] 37)) := (show _ = _ by rw [hb]; exact HV.out.2.1)
  have HV2 : Hid (V.heap[b + 1]? = some (.cells #[.int .i64 0, .int .i64 0, .int .i64 0, .bool false, .slice none 0 0] 24)) := (show _ = _ by rw [hb]; exact HV.out.2.2)
  rw [← hb]
  clear hb HV
  obtain ⟨v0, v1, v2, v3, v4, v5, v6, v7⟩ := (show V.cell? ⟨b, 0, none⟩ = some (.slice oa on oc) ∧ V.cell? ⟨b, 1, none⟩ = some (.int .u16 (t : Int)) ∧ V.cell? ⟨b, 2, none⟩ = some (.int .u16 (cl : Int)) ∧ V.cell? ⟨b, 3, none⟩ = some (.int .u32 (tt : Int)) ∧ V.cell? ⟨b, 4, none⟩ = some (.slice a1 n1 c1) ∧ V.cell? ⟨b, 5, none⟩ = some (.slice a2 n2 c2) ∧ V.cell? ⟨b, 6, none⟩ = some (.slice a3 n3 c3) ∧ V.cell? ⟨b, 7, none⟩ = some (.slice a4 n4 c4) from ⟨box_cell HV1.out 0 _ rfl, box_cell HV1.out 1 _ rfl, box_cell HV1.out 2 _ rfl, box_cell HV1.out 3 _ rfl, box_cell HV1.out 4 _ rfl, box_cell HV1.out 5 _ rfl, box_cell HV1.out 6 _ rfl, box_cell HV1.out 7 _ rfl⟩)
  have q0 := box_lt HV1.out
  go_wp2_with fail
  refine (K39 V).out.mono ?_
  rintro e w1 ⟨rfl, H1⟩
  have m1 := (H1.out.block b (box_lt HV1.out)).trans HV1.out
  have m2 := (H1.out.block (b + 1) (box_lt HV2.out)).trans HV2.out
  have HM1 := Lib.hid m1
  have HM2 := Lib.hid m2
  clear v0 v1 v2 v3 v4 v5 v6 v7 m1 m2 q0
  have HB1 : Hid (Below w.heap.size w w1) := HV0.out.trans (H1.out.mono HV0.out.size)
  rw [HF.out]
  have z := HM2
  have z0 : w1.cell? ⟨b + 1, 0, none⟩ = some (.int .i64 0) := (cell_of_block z.out rfl)
  have z1 : w1.cell? ⟨b + 1, 1, none⟩ = some (.int .i64 0) := (cell_of_block z.out rfl)
  have z2 : w1.cell? ⟨b + 1, 2, none⟩ = some (.int .i64 0) := (cell_of_block z.out rfl)
  have z3 : w1.cell? ⟨b + 1, 3, none⟩ = some (.bool false) := (cell_of_block z.out rfl)
  have z4 : w1.cell? ⟨b + 1, 4, none⟩ = some (.slice none 0 0) := (cell_of_block z.out rfl)
  have f0 : w1.frozen? ⟨b + 1, 0, none⟩ = false := (frozen_of_block z.out)
  have f1 : w1.frozen? ⟨b + 1, 1, none⟩ = false := (frozen_of_block z.out)
  have f2 : w1.frozen? ⟨b + 1, 2, none⟩ = false := (frozen_of_block z.out)
  have f3 : w1.frozen? ⟨b + 1, 3, none⟩ = false := (frozen_of_block z.out)
  have f4 : w1.frozen? ⟨b + 1, 4, none⟩ = false := (frozen_of_block z.out)
  have p7 := block_lt z.out
  go_wp2_with fail
  have z8 : (((((w1.setCell ⟨b + 1, 0, none⟩ (.int .i64 0)).setCell ⟨b + 1, 1, none⟩ (.int .i64 0)).setCell ⟨b + 1, 2, none⟩ (.int .i64 0)).setCell ⟨b + 1, 3, none⟩ (.bool false)).setCell ⟨b + 1, 4, none⟩ (.slice none 0 0)).heap[b + 1]? = some (.cells #[.int .i64 0, .int .i64 0, .int .i64 0, .bool false, .slice none 0 0] 24) := put5e z.out _ _ _ _ _
  have HO8 : Hid (∀ j, j ≠ b + 1 → (((((w1.setCell ⟨b + 1, 0, none⟩ (.int .i64 0)).setCell ⟨b + 1, 1, none⟩ (.int .i64 0)).setCell ⟨b + 1, 2, none⟩ (.int .i64 0)).setCell ⟨b + 1, 3, none⟩ (.bool false)).setCell ⟨b + 1, 4, none⟩ (.slice none 0 0)).heap[j]? = w1.heap[j]?) := fun j hj => put5e_other w1 (b + 1) _ _ _ _ _ j hj
  have HB8 : Hid (Below (b + 1) w1 (((((w1.setCell ⟨b + 1, 0, none⟩ (.int .i64 0)).setCell ⟨b + 1, 1, none⟩ (.int .i64 0)).setCell ⟨b + 1, 2, none⟩ (.int .i64 0)).setCell ⟨b + 1, 3, none⟩ (.bool false)).setCell ⟨b + 1, 4, none⟩ (.slice none 0 0))) := put5e_below w1 (b + 1) _ _ _ _ _
  generalize (((((w1.setCell ⟨b + 1, 0, none⟩ (.int .i64 0)).setCell ⟨b + 1, 1, none⟩ (.int .i64 0)).setCell ⟨b + 1, 2, none⟩ (.int .i64 0)).setCell ⟨b + 1, 3, none⟩ (.bool false)).setCell ⟨b + 1, 4, none⟩ (.slice none 0 0)) = w8 at *
  have y0 : w8.cell? ⟨b + 1, 0, none⟩ = some (.int .i64 0) := cell_of_block z8 rfl
  have y1 : w8.cell? ⟨b + 1, 1, none⟩ = some (.int .i64 0) := cell_of_block z8 rfl
  have y2 : w8.cell? ⟨b + 1, 2, none⟩ = some (.int .i64 0) := cell_of_block z8 rfl
  have y3 : w8.cell? ⟨b + 1, 3, none⟩ = some (.bool false) := cell_of_block z8 rfl
  have y4 : w8.cell? ⟨b + 1, 4, none⟩ = some (.slice none 0 0) := cell_of_block z8 rfl
  have y8 := block_lt z8
  clear z8 z0 f0 z1 f1 z2 f2 z3 f3 z4 f4
  have hbb := HBB.out
  have HBW : Hid (Below w.heap.size w w8) := HB1.out.trans (HB8.out.mono (by omega))
  refine bodyPost_ret (v := .tuple #[.agg #[.int .i64 0, .int .i64 0, .int .i64 0, .bool false, .slice none 0 0], .int .i64 8]) ?_ rfl ⟨rfl, HBW.out⟩
  simp [results, Try.results13, go_sem, y0, y1, y2, y3, y4]
set_option maxRecDepth 100000 in
set_option maxHeartbeats 4000000 in
theorem read13_no (x : RA) (r : Rec) (w : World) (hc : r.tt < 4294967296) (hf : InF x r) (hr : BRd w x.d.p4 r.d.raw) (hg : gopt r.d.raw = none) : Calls Try.prog 13 #[.agg (recCells x r).toArray] w fun e w' => e = .returned (.tuple #[.agg #[.int .i64 0, .int .i64 0, .int .i64 0, .bool false, .slice none 0 0], .int .i64 8]) ∧ Hid (Below w.heap.size w w') := by
  have K39 := fun W => Lib.hid (inform39 x r W hc)
  have HF : Hid (InF x r) := hf
  have HRD : Hid (BRd w x.d.p4 r.d.raw) := hr
  have HG : Hid (gopt r.d.raw = none) := hg
  clear hf hr hg
  obtain ⟨⟨oa, on, oc⟩, ⟨⟨a1, n1, c1⟩, ⟨a2, n2, c2⟩, ⟨a3, n3, c3⟩, ⟨a4, n4, c4⟩⟩⟩ := x
  obtain ⟨ow, t, cl, tt, d⟩ := r
  simp only [recCells] at *
  show Calls Try.prog 13 #[.agg #[.slice oa on oc, .int .u16 (t : Int), .int .u16 (cl : Int), .int .u32 (tt : Int), .slice a1 n1 c1, .slice a2 n2 c2, .slice a3 n3 c3, .slice a4 n4 c4]] w _
  obtain ⟨V, hV⟩ : ∃ V, V = (w.alloc (.cells #[.slice oa on oc, .int .u16 (t : Int), .int .u16 (cl : Int), .int .u32 (tt : Int), .slice a1 n1 c1, .slice a2 n2 c2, .slice a3 n3 c3, .slice a4 n4 c4] 37)).alloc (.cells #[.int .i64 0, .int .i64 0, .int .i64 0, .bool false, .slice none 0 0] 24) := ⟨_, rfl⟩
  have HV : Hid (Below w.heap.size w V ∧ V.heap[w.heap.size]? = some (.cells #[.slice oa on oc, .int .u16 (t : Int), .int .u16 (cl : Int), .int .u32 (tt : Int), .slice a1 n1 c1, .slice a2 n2 c2, .slice a3 n3 c3, .slice a4 n4 c4] 37) ∧ V.heap[w.heap.size + 1]? = some (.cells #[.int .i64 0, .int .i64 0, .int .i64 0, .bool false, .slice none 0 0] 24)) := by
    rw [hV]
    refine ⟨((Below.refl _ _).alloc (Nat.le_refl _) _).alloc (by simp) _, block_alloc (alloc_at _ _) _, ?_⟩
    have := alloc_at (w.alloc (.cells #[.slice oa on oc, .int .u16 (t : Int), .int .u16 (cl : Int), .int .u32 (tt : Int), .slice a1 n1 c1, .slice a2 n2 c2, .slice a3 n3 c3, .slice a4 n4 c4] 37)) (.cells #[.int .i64 0, .int .i64 0, .int .i64 0, .bool false, .slice none 0 0] 24)
    simp only [World.size_alloc] at this
    exact this
  go_enter Try.func13, Try.ntmps13
  go_wp2_with fail
  rw [← hV]
  clear hV
  obtain ⟨b, hb⟩ : ∃ b, b = w.heap.size := ⟨_, rfl⟩
  have HBB : Hid (b = w.heap.size) := hb
  have HV0 : Hid (Below w.heap.size w V) := HV.out.1
  have HV1 : Hid (V.heap[b]? = some (.cells #[.slice oa on oc, .int .u16 (t : Int), .int .u16 (cl : Int), .int .u32 (tt : Int), .slice a1 n1 c1, .slice a2 n2 c2, .slice a3 n3 c3, .slice a4 n4 c4] 37)) := (show _ = _ by rw [hb]; exact HV.out.2.1)
  have HV2 : Hid (V.heap[b + 1]? = some (.cells #[.int .i64 0, .int .i64 0, .int .i64 0, .bool false, .slice none 0 0] 24)) := (show _ = _ by rw [hb]; exact HV.out.2.2)
  rw [← hb]
  clear hb HV
  obtain ⟨v0, v1, v2, v3, v4, v5, v6, v7⟩ := (show V.cell? ⟨b, 0, none⟩ = some (.slice oa on oc) ∧ V.cell? ⟨b, 1, none⟩ = some (.int .u16 (t : Int)) ∧ V.cell? ⟨b, 2, none⟩ = some (.int .u16 (cl : Int)) ∧ V.cell? ⟨b, 3, none⟩ = some (.int .u32 (tt : Int)) ∧ V.cell? ⟨b, 4, none⟩ = some (.slice a1 n1 c1) ∧ V.cell? ⟨b, 5, none⟩ = some (.slice a2 n2 c2) ∧ V.cell? ⟨b, 6, none⟩ = some (.slice a3 n3 c3) ∧ V.cell? ⟨b, 7, none⟩ = some (.slice a4 n4 c4) from ⟨box_cell HV1.out 0 _ rfl, box_cell HV1.out 1 _ rfl, box_cell HV1.out 2 _ rfl, box_cell HV1.out 3 _ rfl, box_cell HV1.out 4 _ rfl, box_cell HV1.out 5 _ rfl, box_cell HV1.out 6 _ rfl, box_cell HV1.out 7 _ rfl⟩)
  have q0 := box_lt HV1.out
  go_wp2_with fail
  refine (K39 V).out.mono ?_
  rintro e w1 ⟨rfl, H1⟩
  have m1 := (H1.out.block b (box_lt HV1.out)).trans HV1.out
  have m2 := (H1.out.block (b + 1) (box_lt HV2.out)).trans HV2.out
  have HM1 := Lib.hid m1
  have HM2 := Lib.hid m2
  clear v0 v1 v2 v3 v4 v5 v6 v7 m1 m2 q0
  have HB1 : Hid (Below w.heap.size w w1) := HV0.out.trans (H1.out.mono HV0.out.size)
  rw [decide_eq_true HF.out]
  have k7 := box_cell HM1.out 7 _ rfl
  have s1 := box_lt HM1.out
  have K40 := Lib.hid (read40 ⟨a4, n4, c4⟩ d.raw w1 (HRD.out.below HB1.out) (show n4 ≤ 1000000 by have := HF.out.2.2.2.2.2.2; simp only at this; omega))
  go_wp2_with fail
  refine K40.out.mono ?_
  rintro e w2 (⟨l, y, e1, rfl, H2⟩ | ⟨e1, rfl, H2⟩)
  · rw [HG.out] at e1; cases e1
  have z := Lib.hid ((H2.out.block (b + 1) (box_lt HM2.out)).trans HM2.out)
  have HB2 : Hid (Below w.heap.size w w2) := HB1.out.trans (H2.out.mono HB1.out.size)
  clear k7 s1 K40
  have z0 : w2.cell? ⟨b + 1, 0, none⟩ = some (.int .i64 0) := (cell_of_block z.out rfl)
  have z1 : w2.cell? ⟨b + 1, 1, none⟩ = some (.int .i64 0) := (cell_of_block z.out rfl)
  have z2 : w2.cell? ⟨b + 1, 2, none⟩ = some (.int .i64 0) := (cell_of_block z.out rfl)
  have z3 : w2.cell? ⟨b + 1, 3, none⟩ = some (.bool false) := (cell_of_block z.out rfl)
  have z4 : w2.cell? ⟨b + 1, 4, none⟩ = some (.slice none 0 0) := (cell_of_block z.out rfl)
  have f0 : w2.frozen? ⟨b + 1, 0, none⟩ = false := (frozen_of_block z.out)
  have f1 : w2.frozen? ⟨b + 1, 1, none⟩ = false := (frozen_of_block z.out)
  have f2 : w2.frozen? ⟨b + 1, 2, none⟩ = false := (frozen_of_block z.out)
  have f3 : w2.frozen? ⟨b + 1, 3, none⟩ = false := (frozen_of_block z.out)
  have f4 : w2.frozen? ⟨b + 1, 4, none⟩ = false := (frozen_of_block z.out)
  have p7 := block_lt z.out
  go_wp2_with fail
  have z8 : (((((w2.setCell ⟨b + 1, 0, none⟩ (.int .i64 0)).setCell ⟨b + 1, 1, none⟩ (.int .i64 0)).setCell ⟨b + 1, 2, none⟩ (.int .i64 0)).setCell ⟨b + 1, 3, none⟩ (.bool false)).setCell ⟨b + 1, 4, none⟩ (.slice none 0 0)).heap[b + 1]? = some (.cells #[.int .i64 0, .int .i64 0, .int .i64 0, .bool false, .slice none 0 0] 24) := put5e z.out _ _ _ _ _
  have HO8 : Hid (∀ j, j ≠ b + 1 → (((((w2.setCell ⟨b + 1, 0, none⟩ (.int .i64 0)).setCell ⟨b + 1, 1, none⟩ (.int .i64 0)).setCell ⟨b + 1, 2, none⟩ (.int .i64 0)).setCell ⟨b + 1, 3, none⟩ (.bool false)).setCell ⟨b + 1, 4, none⟩ (.slice none 0 0)).heap[j]? = w2.heap[j]?) := fun j hj => put5e_other w2 (b + 1) _ _ _ _ _ j hj
  have HB8 : Hid (Below (b + 1) w2 (((((w2.setCell ⟨b + 1, 0, none⟩ (.int .i64 0)).setCell ⟨b + 1, 1, none⟩ (.int .i64 0)).setCell ⟨b + 1, 2, none⟩ (.int .i64 0)).setCell ⟨b + 1, 3, none⟩ (.bool false)).setCell ⟨b + 1, 4, none⟩ (.slice none 0 0))) := put5e_below w2 (b + 1) _ _ _ _ _
  generalize (((((w2.setCell ⟨b + 1, 0, none⟩ (.int .i64 0)).setCell ⟨b + 1, 1, none⟩ (.int .i64 0)).setCell ⟨b + 1, 2, none⟩ (.int .i64 0)).setCell ⟨b + 1, 3, none⟩ (.bool false)).setCell ⟨b + 1, 4, none⟩ (.slice none 0 0)) = w8 at *
  have y0 : w8.cell? ⟨b + 1, 0, none⟩ = some (.int .i64 0) := cell_of_block z8 rfl
  have y1 : w8.cell? ⟨b + 1, 1, none⟩ = some (.int .i64 0) := cell_of_block z8 rfl
  have y2 : w8.cell? ⟨b + 1, 2, none⟩ = some (.int .i64 0) := cell_of_block z8 rfl
  have y3 : w8.cell? ⟨b + 1, 3, none⟩ = some (.bool false) := cell_of_block z8 rfl
  have y4 : w8.cell? ⟨b + 1, 4, none⟩ = some (.slice none 0 0) := cell_of_block z8 rfl
  have y8 := block_lt z8
  clear z8 z0 f0 z1 f1 z2 f2 z3 f3 z4 f4
  have hbb := HBB.out
  have HBW : Hid (Below w.heap.size w w8) := HB2.out.trans (HB8.out.mono (by omega))
  refine bodyPost_ret (v := .tuple #[.agg #[.int .i64 0, .int .i64 0, .int .i64 0, .bool false, .slice none 0 0], .int .i64 8]) ?_ rfl ⟨rfl, HBW.out⟩
  simp [results, Try.results13, go_sem, y0, y1, y2, y3, y4]
set_option maxRecDepth 100000 in
set_option maxHeartbeats 4000000 in
theorem read13_yes (x : RA) (r : Rec) (w : World) (l : List Opt) (hc : r.tt < 4294967296) (hcl : r.cl < 65536) (hf : InF x r) (hr : BRd w x.d.p4 r.d.raw) (hg : gopt r.d.raw = some l) : Calls Try.prog 13 #[.agg (recCells x r).toArray] w fun e w' => ∃ s : Sl, e = .returned (.tuple #[.agg #[.int .i64 (edE r l).sz, .int .i64 (edE r l).hi, .int .i64 (edE r l).ve, .bool (edE r l).dd, .slice s.a s.n s.c], .int .i64 0]) ∧ Hid (OwO w.heap.size w' (.slice s.a s.n s.c) l ∧ Below w.heap.size w w') := by
  have K39 := fun W => Lib.hid (inform39 x r W hc)
  have HF : Hid (InF x r) := hf
  have HRD : Hid (BRd w x.d.p4 r.d.raw) := hr
  have HG : Hid (gopt r.d.raw = some l) := hg
  have hF := and32 r.tt hc
  clear hf hr hg
  have HED : Hid ((edE r l).sz = (r.cl : Int) ∧ (edE r l).hi = (r.tt : Int) / 16777216 ∧ (edE r l).ve = (r.tt : Int) % 16777216 / 65536 ∧ (edE r l).dd = decide (r.tt / 32768 % 2 = 1)) := ⟨rfl, by simp only [edE]; omega, by simp only [edE]; omega, rfl⟩
  generalize edE r l = Q at *
  generalize decide (r.tt / 32768 % 2 = 1) = F at *
  obtain ⟨⟨oa, on, oc⟩, ⟨⟨a1, n1, c1⟩, ⟨a2, n2, c2⟩, ⟨a3, n3, c3⟩, ⟨a4, n4, c4⟩⟩⟩ := x
  obtain ⟨ow, t, cl, tt, d⟩ := r
  simp only [recCells] at *
  show Calls Try.prog 13 #[.agg #[.slice oa on oc, .int .u16 (t : Int), .int .u16 (cl : Int), .int .u32 (tt : Int), .slice a1 n1 c1, .slice a2 n2 c2, .slice a3 n3 c3, .slice a4 n4 c4]] w _
  obtain ⟨V, hV⟩ : ∃ V, V = (w.alloc (.cells #[.slice oa on oc, .int .u16 (t : Int), .int .u16 (cl : Int), .int .u32 (tt : Int), .slice a1 n1 c1, .slice a2 n2 c2, .slice a3 n3 c3, .slice a4 n4 c4] 37)).alloc (.cells #[.int .i64 0, .int .i64 0, .int .i64 0, .bool false, .slice none 0 0] 24) := ⟨_, rfl⟩
  have HV : Hid (Below w.heap.size w V ∧ V.heap[w.heap.size]? = some (.cells #[.slice oa on oc, .int .u16 (t : Int), .int .u16 (cl : Int), .int .u32 (tt : Int), .slice a1 n1 c1, .slice a2 n2 c2, .slice a3 n3 c3, .slice a4 n4 c4] 37) ∧ V.heap[w.heap.size + 1]? = some (.cells #[.int .i64 0, .int .i64 0, .int .i64 0, .bool false, .slice none 0 0] 24)) := by
    rw [hV]
    refine ⟨((Below.refl _ _).alloc (Nat.le_refl _) _).alloc (by simp) _, block_alloc (alloc_at _ _) _, ?_⟩
    have := alloc_at (w.alloc (.cells #[.slice oa on oc, .int .u16 (t : Int), .int .u16 (cl : Int), .int .u32 (tt : Int), .slice a1 n1 c1, .slice a2 n2 c2, .slice a3 n3 c3, .slice a4 n4 c4] 37)) (.cells #[.int .i64 0, .int .i64 0, .int .i64 0, .bool false, .slice none 0 0] 24)
    simp only [World.size_alloc] at this
    exact this
  go_enter Try.func13, Try.ntmps13
  go_wp2_with fail
  rw [← hV]
  clear hV
  obtain ⟨b, hb⟩ : ∃ b, b = w.heap.size := ⟨_, rfl⟩
  have HBB : Hid (b = w.heap.size) := hb
  have HV0 : Hid (Below w.heap.size w V) := HV.out.1
  have HV1 : Hid (V.heap[b]? = some (.cells #[.slice oa on oc, .int .u16 (t : Int), .int .u16 (cl : Int), .int .u32 (tt : Int), .slice a1 n1 c1, .slice a2 n2 c2, .slice a3 n3 c3, .slice a4 n4 c4] 37)) := (show _ = _ by rw [hb]; exact HV.out.2.1)
  have HV2 : Hid (V.heap[b + 1]? = some (.cells #[.int .i64 0, .int .i64 0, .int .i64 0, .bool false, .slice none 0 0] 24)) := (show _ = _ by rw [hb]; exact HV.out.2.2)
  rw [← hb]
  clear hb HV
  obtain ⟨v0, v1, v2, v3, v4, v5, v6, v7⟩ := (show V.cell? ⟨b, 0, none⟩ = some (.slice oa on oc) ∧ V.cell? ⟨b, 1, none⟩ = some (.int .u16 (t : Int)) ∧ V.cell? ⟨b, 2, none⟩ = some (.int .u16 (cl : Int)) ∧ V.cell? ⟨b, 3, none⟩ = some (.int .u32 (tt : Int)) ∧ V.cell? ⟨b, 4, none⟩ = some (.slice a1 n1 c1) ∧ V.cell? ⟨b, 5, none⟩ = some (.slice a2 n2 c2) ∧ V.cell? ⟨b, 6, none⟩ = some (.slice a3 n3 c3) ∧ V.cell? ⟨b, 7, none⟩ = some (.slice a4 n4 c4) from ⟨box_cell HV1.out 0 _ rfl, box_cell HV1.out 1 _ rfl, box_cell HV1.out 2 _ rfl, box_cell HV1.out 3 _ rfl, box_cell HV1.out 4 _ rfl, box_cell HV1.out 5 _ rfl, box_cell HV1.out 6 _ rfl, box_cell HV1.out 7 _ rfl⟩)
  have q0 := box_lt HV1.out
  go_wp2_with fail
  refine (K39 V).out.mono ?_
  rintro e w1 ⟨rfl, H1⟩
  have m1 := (H1.out.block b (box_lt HV1.out)).trans HV1.out
  have m2 := (H1.out.block (b + 1) (box_lt HV2.out)).trans HV2.out
  have HM1 := Lib.hid m1
  have HM2 := Lib.hid m2
  clear v0 v1 v2 v3 v4 v5 v6 v7 m1 m2 q0
  have HB1 : Hid (Below w.heap.size w w1) := HV0.out.trans (H1.out.mono HV0.out.size)
  rw [decide_eq_true HF.out]
  have k7 := box_cell HM1.out 7 _ rfl
  have s1 := box_lt HM1.out
  have K40 := Lib.hid (read40 ⟨a4, n4, c4⟩ d.raw w1 (HRD.out.below HB1.out) (show n4 ≤ 1000000 by have := HF.out.2.2.2.2.2.2; simp only at this; omega))
  go_wp2_with fail
  refine K40.out.mono ?_
  rintro e w2 (⟨l', ⟨ya, yn, yc⟩, e1, rfl, H2⟩ | ⟨e1, rfl, H2⟩)
  rotate_left
  · rw [HG.out] at e1; cases e1
  have hll : l' = l := by rw [HG.out] at e1; exact (Option.some.inj e1).symm
  subst hll
  clear e1
  have z := Lib.hid ((H2.out.2.block (b + 1) (box_lt HM2.out)).trans HM2.out)
  have mm := (H2.out.2.block b (box_lt HM1.out)).trans HM1.out
  have k2 := box_cell mm 2 _ rfl
  have k3 := box_cell mm 3 _ rfl
  have sm := box_lt mm
  have HB2 : Hid (Below w.heap.size w w2) := HB1.out.trans (H2.out.2.mono HB1.out.size)
  clear k7 s1 K40 mm
  have hw1 : IntKind.i64.wrap (cl : Int) = (cl : Int) := by rw [IntKind.wrap_i64]; omega
  have hw2 : IntKind.i64.wrap ((tt : Int) / 16777216) = (tt : Int) / 16777216 := by rw [IntKind.wrap_i64]; omega
  have hw3 : IntKind.i64.wrap ((tt : Int) % 16777216 / 65536) = (tt : Int) % 16777216 / 65536 := by rw [IntKind.wrap_i64]; omega
  have z0 : w2.cell? ⟨b + 1, 0, none⟩ = some (.int .i64 0) := (cell_of_block z.out rfl)
  have z1 : w2.cell? ⟨b + 1, 1, none⟩ = some (.int .i64 0) := (cell_of_block z.out rfl)
  have z2 : w2.cell? ⟨b + 1, 2, none⟩ = some (.int .i64 0) := (cell_of_block z.out rfl)
  have z3 : w2.cell? ⟨b + 1, 3, none⟩ = some (.bool false) := (cell_of_block z.out rfl)
  have z4 : w2.cell? ⟨b + 1, 4, none⟩ = some (.slice none 0 0) := (cell_of_block z.out rfl)
  have f0 : w2.frozen? ⟨b + 1, 0, none⟩ = false := (frozen_of_block z.out)
  have f1 : w2.frozen? ⟨b + 1, 1, none⟩ = false := (frozen_of_block z.out)
  have f2 : w2.frozen? ⟨b + 1, 2, none⟩ = false := (frozen_of_block z.out)
  have f3 : w2.frozen? ⟨b + 1, 3, none⟩ = false := (frozen_of_block z.out)
  have f4 : w2.frozen? ⟨b + 1, 4, none⟩ = false := (frozen_of_block z.out)
  have p7 := block_lt z.out
  go_wp2_with fail
  have z8 : (((((w2.setCell ⟨b + 1, 0, none⟩ (.int .i64 (cl : Int))).setCell ⟨b + 1, 1, none⟩ (.int .i64 ((tt : Int) / 16777216))).setCell ⟨b + 1, 2, none⟩ (.int .i64 ((tt : Int) % 16777216 / 65536))).setCell ⟨b + 1, 3, none⟩ (.bool F)).setCell ⟨b + 1, 4, none⟩ (.slice ya yn yc)).heap[b + 1]? = some (.cells #[.int .i64 (cl : Int), .int .i64 ((tt : Int) / 16777216), .int .i64 ((tt : Int) % 16777216 / 65536), .bool F, .slice ya yn yc] 24) := put5e z.out _ _ _ _ _
  have HO8 : Hid (∀ j, j ≠ b + 1 → (((((w2.setCell ⟨b + 1, 0, none⟩ (.int .i64 (cl : Int))).setCell ⟨b + 1, 1, none⟩ (.int .i64 ((tt : Int) / 16777216))).setCell ⟨b + 1, 2, none⟩ (.int .i64 ((tt : Int) % 16777216 / 65536))).setCell ⟨b + 1, 3, none⟩ (.bool F)).setCell ⟨b + 1, 4, none⟩ (.slice ya yn yc)).heap[j]? = w2.heap[j]?) := fun j hj => put5e_other w2 (b + 1) _ _ _ _ _ j hj
  have HB8 : Hid (Below (b + 1) w2 (((((w2.setCell ⟨b + 1, 0, none⟩ (.int .i64 (cl : Int))).setCell ⟨b + 1, 1, none⟩ (.int .i64 ((tt : Int) / 16777216))).setCell ⟨b + 1, 2, none⟩ (.int .i64 ((tt : Int) % 16777216 / 65536))).setCell ⟨b + 1, 3, none⟩ (.bool F)).setCell ⟨b + 1, 4, none⟩ (.slice ya yn yc))) := put5e_below w2 (b + 1) _ _ _ _ _
  generalize (((((w2.setCell ⟨b + 1, 0, none⟩ (.int .i64 (cl : Int))).setCell ⟨b + 1, 1, none⟩ (.int .i64 ((tt : Int) / 16777216))).setCell ⟨b + 1, 2, none⟩ (.int .i64 ((tt : Int) % 16777216 / 65536))).setCell ⟨b + 1, 3, none⟩ (.bool F)).setCell ⟨b + 1, 4, none⟩ (.slice ya yn yc)) = w8 at *
  have y0 : w8.cell? ⟨b + 1, 0, none⟩ = some (.int .i64 (cl : Int)) := cell_of_block z8 rfl
  have y1 : w8.cell? ⟨b + 1, 1, none⟩ = some (.int .i64 ((tt : Int) / 16777216)) := cell_of_block z8 rfl
  have y2 : w8.cell? ⟨b + 1, 2, none⟩ = some (.int .i64 ((tt : Int) % 16777216 / 65536)) := cell_of_block z8 rfl
  have y3 : w8.cell? ⟨b + 1, 3, none⟩ = some (.bool F) := cell_of_block z8 rfl
  have y4 : w8.cell? ⟨b + 1, 4, none⟩ = some (.slice ya yn yc) := cell_of_block z8 rfl
  have y8 := block_lt z8
  clear z8 z0 f0 z1 f1 z2 f2 z3 f3 z4 f4
  have hbb := HBB.out
  have HBW : Hid (Below w.heap.size w w8) := HB2.out.trans (HB8.out.mono (by omega))
  refine bodyPost_ret (v := .tuple #[.agg #[.int .i64 (cl : Int), .int .i64 ((tt : Int) / 16777216), .int .i64 ((tt : Int) % 16777216 / 65536), .bool F, .slice ya yn yc], .int .i64 0]) ?_ rfl ⟨⟨ya, yn, yc⟩, by rw [HED.out.1, HED.out.2.1, HED.out.2.2.1, HED.out.2.2.2], ?_, HBW.out⟩
  simp [results, Try.results13, go_sem, y0, y1, y2, y3, y4]
  have hgb : w2.grownBy w8 (some (b + 1)) := ⟨HB8.out.os, HB8.out.tape, HB8.out.output, HB8.out.size, fun k hk hne => HO8.out k (fun e => hne (by rw [e]))⟩
  exact (H2.out.1.mv hgb (box_lt HM2.out)).mono HB1.out.size
end Go.Proofs.Ytgeoadkcmbageaa
namespace Go.Proofs.Ytgeoadkcmbageaa
open Go.ChangeShapes Go.WideShapes Go.ChangeAt Go.RowKit
set_option linter.unusedVariables false
set_option linter.unusedSimpArgs false
set_option maxRecDepth 100000 in
set_option maxHeartbeats 2000000 in
theorem awake31 (w : World) : Calls Try.prog 31 #[] w fun e w' => e = .returned (.bool true) ∧ Hid (Below w.heap.size w w') := by
  have hsay : Say ⟨1232, 0, 0, true, []⟩ := by decide
  have K11 := Lib.hid (record11_yes ⟨1232, 0, 0, true, []⟩ nilS w (OsRd.none w) (fun o ho => (by cases ho)) hsay)
  have e0 : (recE ⟨1232, 0, 0, true, []⟩).t = 41 := rfl
  have e1 : (recE ⟨1232, 0, 0, true, []⟩).cl = 1232 := rfl
  have e2 : (recE ⟨1232, 0, 0, true, []⟩).tt = 32768 := by decide
  have e3 : (recE ⟨1232, 0, 0, true, []⟩).ow = [] := rfl
  have e4 : (recE ⟨1232, 0, 0, true, []⟩).d.raw = [] := rfl
  go_enter Try.func31, Try.ntmps31
  go_wp2_with fail
  refine K11.out.mono ?_
  rintro e w1 ⟨x, rfl, H1⟩
  have h1 : x.o.n = 0 := by rw [← H1.out.1.1.len, e3]; rfl
  have h2 : x.d.p4.n = 0 := by rw [← H1.out.1.2.h4.len, e4]; rfl
  have HB : Hid (Below w.heap.size w w1) := H1.out.2
  clear H1 K11 hsay e3 e4
  simp only [recCells, e0, e1, e2]
  clear e0 e1 e2
  obtain ⟨⟨oa, on, oc⟩, ⟨⟨a1, n1, c1⟩, ⟨a2, n2, c2⟩, ⟨a3, n3, c3⟩, ⟨a4, n4, c4⟩⟩⟩ := x
  simp only at h1 h2
  subst h1; subst h2
  have hn := newE_below w1 (.cells #[.slice oa 0 oc, .int .u16 41, .int .u16 1232, .int .u32 32768, .slice a1 n1 c1, .slice a2 n2 c2, .slice a3 n3 c3, .slice a4 0 c4] 37)
  have HB2 : Hid (Below w.heap.size w (w1.alloc (.cells #[.slice oa 0 oc, .int .u16 41, .int .u16 1232, .int .u32 32768, .slice a1 n1 c1, .slice a2 n2 c2, .slice a3 n3 c3, .slice a4 0 c4] 37))) := HB.out.trans (hn.mono HB.out.size)
  clear hn HB
  go_wp2
  go_ret
  exact ⟨rfl, HB2.out⟩
end Go.Proofs.Ytgeoadkcmbageaa
namespace Go.Proofs.Ytgeoadkcmbageaa
open Go.ChangeShapes Go.WideShapes Go.ChangeAt Go.RowKit
set_option linter.unusedVariables false
set_option linter.unusedSimpArgs false
theorem RRd_below {w w' : World} {x : RA} {r : Rec} (h : RRd w x r) (hb : Below w.heap.size w w') : RRd w' x r := ⟨h.1.below hb, h.2.below hb⟩
end Go.Proofs.Ytgeoadkcmbageaa
namespace Go.Proofs.Ytgeoadkcmbageaa
open Go.ChangeShapes Go.WideShapes Go.ChangeAt Go.RowKit
set_option linter.unusedVariables false
set_option linter.unusedSimpArgs false
/-- A list of records that can be read. -/
structure LsRd (w : World) (s : Sl) (rs : List Rec) : Prop where
  rd : RdR w s.a rs
  len : rs.length = s.n
  cap : s.n ≤ s.c ∧ s.c ≤ 9223372036854775807
  nil : s.a = none → s.c = 0
theorem LsRd.below {w w' : World} {s : Sl} {rs : List Rec} (h : LsRd w s rs) (hb : Below w.heap.size w w') : LsRd w' s rs := ⟨h.rd.below hb, h.len, h.cap, h.nil⟩
theorem lsrd_none (w : World) : LsRd w nilS [] := ⟨.inl rfl, rfl, ⟨Nat.le_refl _, Nat.zero_le _⟩, fun _ => rfl⟩
/-- A function of records that answers P. -/
def Asks (fn : Nat) (P : Rec → Bool) : Prop := ∀ (x : RA) (r : Rec) (W : World), Calls Try.prog fn #[.agg (recCells x r).toArray] W fun e w' => e = .returned (.bool (P r)) ∧ Hid (Below W.heap.size W w')
def isO (r : Rec) : Bool := decide (r.t = 41)
theorem asks53 : Asks 53 isO := fun x r W => isopt53 x r W
set_option maxRecDepth 100000 in
set_option maxHeartbeats 1000000 in
theorem asks51 : Asks 51 (fun r => !isO r) := by
  intro x r w
  have K := fun W => Lib.hid (isopt53 x r W)
  show Calls Try.prog 51 #[.agg (recCells x r).toArray] w fun e w' => e = .returned (.bool (!decide (r.t = 41))) ∧ Hid (Below w.heap.size w w')
  obtain ⟨⟨oa, on, oc⟩, ⟨⟨a1, n1, c1⟩, ⟨a2, n2, c2⟩, ⟨a3, n3, c3⟩, ⟨a4, n4, c4⟩⟩⟩ := x
  obtain ⟨ow, t, cl, tt, d⟩ := r
  simp only [recCells] at K
  show Calls Try.prog 51 #[.agg #[.slice oa on oc, .int .u16 (t : Int), .int .u16 (cl : Int), .int .u32 (tt : Int), .slice a1 n1 c1, .slice a2 n2 c2, .slice a3 n3 c3, .slice a4 n4 c4]] w _
  have HB : Hid (Below w.heap.size w (w.alloc (.cells #[.slice oa on oc, .int .u16 (t : Int), .int .u16 (cl : Int), .int .u32 (tt : Int), .slice a1 n1 c1, .slice a2 n2 c2, .slice a3 n3 c3, .slice a4 n4 c4] 37))) := newE_below _ _
  simp only
  generalize decide (t = 41) = q at *
  go_enter Try.func51, Try.ntmps51
  go_wp2_with fail
  refine (K _).out.mono ?_
  rintro e w1 ⟨rfl, H1⟩
  go_wp2
  go_ret
  exact ⟨by cases q <;> rfl, HB.out.trans (H1.out.mono HB.out.size)⟩
/-- What IndexFunc answers. -/
def IxP (P : Rec → Bool) (rs : List Rec) (w : World) (e : Ending) (w' : World) : Prop :=
  (∃ k : Nat, ∃ h : k < rs.length, P rs[k] = true ∧ (∀ r ∈ rs.take k, P r = false) ∧ e = .returned (.int .i64 (k : Int)) ∧ Hid (Below w.heap.size w w')) ∨ ((∀ r ∈ rs, P r = false) ∧ e = .returned (.int .i64 (-1)) ∧ Hid (Below w.heap.size w w'))
theorem ixp_yes {P : Rec → Bool} {rs : List Rec} {w w' : World} {k : Nat} (h : k < rs.length) (h1 : P rs[k] = true) (h2 : ∀ r ∈ rs.take k, P r = false) (h3 : Below w.heap.size w w') : IxP P rs w (.returned (.int .i64 (k : Int))) w' := .inl ⟨k, h, h1, h2, rfl, h3⟩
theorem ixp_no {P : Rec → Bool} {rs : List Rec} {w w' : World} (h2 : ∀ r ∈ rs, P r = false) (h3 : Below w.heap.size w w') : IxP P rs w (.returned (.int .i64 (-1))) w' := .inr ⟨h2, rfl, h3⟩
theorem all_step {P : Rec → Bool} {rs : List Rec} {k : Nat} (hk : k < rs.length) (h : ∀ r ∈ rs.take k, P r = false) (h1 : P rs[k] = false) : ∀ r ∈ rs.take (k + 1), P r = false := by
  rw [List.take_succ_eq_append_getElem hk]
  intro r hr
  rcases List.mem_append.1 hr with hr | hr
  · exact h r hr
  · rw [List.mem_singleton.1 hr]; exact h1
set_option maxRecDepth 100000 in
set_option maxHeartbeats 2000000 in
theorem index69_51 (P : Rec → Bool) (hP : Asks 51 P) (s : Sl) (rs : List Rec) (w : World) (h : LsRd w s rs) : Calls Try.prog 69 #[(.slice s.a s.n s.c), .func (.func 51) #[] #[]] w (IxP P rs w) := by
  have HR : Hid (LsRd w s rs) := h
  have HP : Hid (Asks 51 P) := hP
  have hl := h.len
  have hcap := h.cap
  clear h hP
  obtain ⟨sa, n, sc⟩ := s
  simp only at *
  go_enter Try.func69, Try.ntmps69
  go_wp2_with fail
  go_loopw [8] (fun y wr => ∃ k : Nat, k ≤ n ∧ y = .int .i64 (k : Int) ∧ Hid ((∀ r ∈ rs.take k, P r = false) ∧ Below w.heap.size w wr)) (fun y _ => n - (intOf y).toNat)
  case atStart => exact ⟨0, Nat.zero_le _, rfl, fun r hr => (by simp at hr), Below.refl _ _⟩
  case round =>
    obtain ⟨k, hk, rfl, HW⟩ := hrel
    by_cases hlt : k < n
    · have hlt' : (k : Int) < (n : Int) := by omega
      have hkl : k < rs.length := by omega
      obtain ⟨b, o, e0, hbb, x, he, hx⟩ := (HR.out.rd.below HW.out.2).at k hkl
      simp only at e0
      subst e0
      have KA := Lib.hid (HP.out x rs[k] wr)
      have c0 := he 0 (by omega)
      have c1 := he 1 (by omega)
      have c2 := he 2 (by omega)
      have c3 := he 3 (by omega)
      have c4 := he 4 (by omega)
      have c5 := he 5 (by omega)
      have c6 := he 6 (by omega)
      have c7 := he 7 (by omega)
      obtain ⟨q, hq⟩ : ∃ q, q = P rs[k] := ⟨_, rfl⟩
      have HQ : Hid (q = P rs[k]) := hq
      rw [← hq] at KA
      clear hx he hq
      generalize rs[k] = r at KA c0 c1 c2 c3 c4 c5 c6 c7
      obtain ⟨⟨xa, xn, xc⟩, ⟨⟨xa1, xn1, xc1⟩, ⟨xa2, xn2, xc2⟩, ⟨xa3, xn3, xc3⟩, ⟨xa4, xn4, xc4⟩⟩⟩ := x
      obtain ⟨ow, t, cl, tt, d⟩ := r
      simp only [recCells, Nat.add_zero, List.getElem?_cons_zero, List.getElem?_cons_succ] at c0 c1 c2 c3 c4 c5 c6 c7 KA
      cases q
      · go_wp2_with fail
        refine KA.out.mono ?_
        rintro e w2 ⟨rfl, H2⟩
        have HB2 : Hid (Below w.heap.size w w2) := HW.out.2.trans (H2.out.mono HW.out.2.size)
        go_wp2
        go_round
        case rel => exact ⟨k + 1, by omega, by go_num, all_step hkl HW.out.1 HQ.out.symm, HB2.out⟩
        case measure => simp [intOf]; omega
      · go_wp2_with fail
        refine KA.out.mono ?_
        rintro e w2 ⟨rfl, H2⟩
        have HB2 : Hid (Below w.heap.size w w2) := HW.out.2.trans (H2.out.mono HW.out.2.size)
        go_wp2
        go_ret
        exact ixp_yes hkl HQ.out.symm HW.out.1 HB2.out
    · have hge : (n : Int) ≤ (k : Int) := by omega
      have HA : Hid (∀ r ∈ rs, P r = false) := by
        have := HW.out.1
        rw [List.take_of_length_le (by omega)] at this
        exact this
      go_wp2
      go_ret
      exact ixp_no HA.out HW.out.2
set_option maxRecDepth 100000 in
set_option maxHeartbeats 2000000 in
theorem index69_53 (P : Rec → Bool) (hP : Asks 53 P) (s : Sl) (rs : List Rec) (w : World) (h : LsRd w s rs) : Calls Try.prog 69 #[(.slice s.a s.n s.c), .func (.func 53) #[] #[]] w (IxP P rs w) := by
  have HR : Hid (LsRd w s rs) := h
  have HP : Hid (Asks 53 P) := hP
  have hl := h.len
  have hcap := h.cap
  clear h hP
  obtain ⟨sa, n, sc⟩ := s
  simp only at *
  go_enter Try.func69, Try.ntmps69
  go_wp2_with fail
  go_loopw [8] (fun y wr => ∃ k : Nat, k ≤ n ∧ y = .int .i64 (k : Int) ∧ Hid ((∀ r ∈ rs.take k, P r = false) ∧ Below w.heap.size w wr)) (fun y _ => n - (intOf y).toNat)
  case atStart => exact ⟨0, Nat.zero_le _, rfl, fun r hr => (by simp at hr), Below.refl _ _⟩
  case round =>
    obtain ⟨k, hk, rfl, HW⟩ := hrel
    by_cases hlt : k < n
    · have hlt' : (k : Int) < (n : Int) := by omega
      have hkl : k < rs.length := by omega
      obtain ⟨b, o, e0, hbb, x, he, hx⟩ := (HR.out.rd.below HW.out.2).at k hkl
      simp only at e0
      subst e0
      have KA := Lib.hid (HP.out x rs[k] wr)
      have c0 := he 0 (by omega)
      have c1 := he 1 (by omega)
      have c2 := he 2 (by omega)
      have c3 := he 3 (by omega)
      have c4 := he 4 (by omega)
      have c5 := he 5 (by omega)
      have c6 := he 6 (by omega)
      have c7 := he 7 (by omega)
      obtain ⟨q, hq⟩ : ∃ q, q = P rs[k] := ⟨_, rfl⟩
      have HQ : Hid (q = P rs[k]) := hq
      rw [← hq] at KA
      clear hx he hq
      generalize rs[k] = r at KA c0 c1 c2 c3 c4 c5 c6 c7
      obtain ⟨⟨xa, xn, xc⟩, ⟨⟨xa1, xn1, xc1⟩, ⟨xa2, xn2, xc2⟩, ⟨xa3, xn3, xc3⟩, ⟨xa4, xn4, xc4⟩⟩⟩ := x
      obtain ⟨ow, t, cl, tt, d⟩ := r
      simp only [recCells, Nat.add_zero, List.getElem?_cons_zero, List.getElem?_cons_succ] at c0 c1 c2 c3 c4 c5 c6 c7 KA
      cases q
      · go_wp2_with fail
        refine KA.out.mono ?_
        rintro e w2 ⟨rfl, H2⟩
        have HB2 : Hid (Below w.heap.size w w2) := HW.out.2.trans (H2.out.mono HW.out.2.size)
        go_wp2
        go_round
        case rel => exact ⟨k + 1, by omega, by go_num, all_step hkl HW.out.1 HQ.out.symm, HB2.out⟩
        case measure => simp [intOf]; omega
      · go_wp2_with fail
        refine KA.out.mono ?_
        rintro e w2 ⟨rfl, H2⟩
        have HB2 : Hid (Below w.heap.size w w2) := HW.out.2.trans (H2.out.mono HW.out.2.size)
        go_wp2
        go_ret
        exact ixp_yes hkl HQ.out.symm HW.out.1 HB2.out
    · have hge : (n : Int) ≤ (k : Int) := by omega
      have HA : Hid (∀ r ∈ rs, P r = false) := by
        have := HW.out.1
        rw [List.take_of_length_le (by omega)] at this
        exact this
      go_wp2
      go_ret
      exact ixp_no HA.out HW.out.2
set_option maxRecDepth 100000 in
set_option maxHeartbeats 1000000 in
theorem contains52 (s : Sl) (rs : List Rec) (w : World) (h : LsRd w s rs) : Calls Try.prog 52 #[(.slice s.a s.n s.c), .func (.func 53) #[] #[]] w fun e w' => e = .returned (.bool (rs.any isO)) ∧ Hid (Below w.heap.size w w') := by
  have K := Lib.hid (index69_53 isO asks53 s rs w h)
  clear h
  obtain ⟨A, hA⟩ : ∃ A, A = rs.any isO := ⟨_, rfl⟩
  rw [← hA]
  have HA : Hid (A = rs.any isO) := hA
  clear hA
  obtain ⟨sa, n, sc⟩ := s
  simp only at *
  go_enter Try.func52, Try.ntmps52
  go_wp2_with fail
  refine K.out.mono ?_
  rintro e w1 (⟨k, hk, h1, h2, rfl, H1⟩ | ⟨h2, rfl, H1⟩)
  · have e1 : rs.any isO = true := List.any_eq_true.2 ⟨rs[k], List.getElem_mem hk, h1⟩
    have eA : A = true := HA.out.trans e1
    have hk0 : (0 : Int) ≤ (k : Int) := by omega
    clear h1 h2 e1 hk HA
    subst eA
    go_wp2
    go_ret
    exact ⟨rfl, H1.out⟩
  · have e1 : rs.any isO = false := by
      rw [List.any_eq_false]
      intro r hr
      rw [h2 r hr]
      simp
    have eA : A = false := HA.out.trans e1
    clear h2 e1 HA
    subst eA
    go_wp2
    go_ret
    exact ⟨rfl, H1.out⟩
end Go.Proofs.Ytgeoadkcmbageaa
namespace Go.Proofs.Ytgeoadkcmbageaa
open Go.ChangeShapes Go.WideShapes Go.ChangeAt Go.RowKit
set_option linter.unusedVariables false
set_option linter.unusedSimpArgs false
theorem rec_is_nil (a : Option Addr) (n c : Nat) (w : World) : (binOp .eql 52 (.slice a n c) (.slice none 0 0)).run Try.prog w = .ok (.bool a.isNone) w := Lib.run_eql_slice_nil w _ _ _ _ _ _ _ Try.underlying52
theorem clone50_nil (w : World) : Calls Try.prog 50 #[.slice none 0 0] w fun e w' => e = .returned (.slice none 0 0) ∧ w' = w := by
  have h := rec_is_nil none 0 0 w
  go_enter Try.func50, Try.ntmps50
  go_wp2
  go_ret
  exact ⟨rfl, rfl⟩
/-- Where the records of a list lie. -/
theorem lsrd_parts {w : World} {s : Sl} {rs : List Rec} (h : LsRd w s rs) {b o : Nat} (ha : s.a = some ⟨b, o, none⟩) : ∃ ps : List (RA × Rec), ps.map (·.2) = rs ∧ (∀ j u, (cellsR ps)[j]? = some u → w.cell? ((⟨b, o, none⟩ : Addr).add j) = some u) ∧ ∀ p ∈ ps, RRd w p.1 p.2 := by
  have hex : ∀ i, i < rs.length → ∃ p : RA × Rec, some p.2 = rs[i]? ∧ (∀ j, j < 8 → w.cell? ⟨b, o + i * 8 + j, none⟩ = (recCells p.1 p.2)[j]?) ∧ RRd w p.1 p.2 := by
    intro i hi
    obtain ⟨b', o', e1, e2, x, e3, e4⟩ := h.rd.at i hi
    rw [ha] at e1
    cases e1
    exact ⟨(x, rs[i]), by simp [hi], e3, e4⟩
  obtain ⟨ps, hl, hps⟩ := list_of rs.length _ hex
  have hm : ps.map (·.2) = rs := by
    refine List.ext_getElem (by simp [hl]) fun i h1 h2 => ?_
    rw [List.getElem_map]
    have := (hps i (by omega)).1
    rw [List.getElem?_eq_getElem h2] at this
    exact Option.some.inj this
  refine ⟨ps, hm, fun j u hu => ?_, fun p hp => ?_⟩
  · have ad : (⟨b, o, none⟩ : Addr).add j = ⟨b, o + j, none⟩ := by unfold Addr.add; split <;> simp_all
    rw [ad]
    have hlen : (cellsR ps).length = ps.length * 8 := by
      clear hps hl hm hu hex
      induction ps with
      | nil => rfl
      | cons p l ih => simp only [cellsR, List.flatMap_cons, List.length_append] at ih ⊢; rw [ih]; simp [recCells]; omega
    have hj : j < ps.length * 8 := by rw [← hlen]; exact (List.getElem?_eq_some_iff.1 hu).1
    have hi : j / 8 < ps.length := by omega
    have e1 := cellsR_at ps (j / 8) hi (j % 8) (by omega)
    rw [show j / 8 * 8 + j % 8 = j by omega] at e1
    rw [e1] at hu
    have := (hps (j / 8) (by omega)).2.1 (j % 8) (by omega)
    rw [show o + j / 8 * 8 + j % 8 = o + j by omega, hu] at this
    exact this
  · obtain ⟨i, hi, rfl⟩ := List.getElem_of_mem hp
    exact (hps i (by omega)).2.2
theorem row_lsrd {B g cap : Nat} {w : World} {ps : List (RA × Rec)} (h : w.ownsRow B 37 8 (.slice (some ⟨g, 0, none⟩) ps.length cap) ps.length (cellsR ps)) (hr : ∀ p ∈ ps, RRd w p.1 p.2) : LsRd w ⟨some ⟨g, 0, none⟩, ps.length, cap⟩ (ps.map (·.2)) := by
  rcases h.2 with ⟨e, _⟩ | ⟨g', cap', cur, e, hb, hg, k1, k2, k3, k4⟩
  · cases e
  · have e1 : g' = g ∧ cap' = cap := by simpa [eq_comm] using e
    obtain ⟨rfl, rfl⟩ := e1
    refine ⟨.inr ⟨g', 0, rfl, (Array.getElem?_eq_some_iff.1 hg).1, fun i hi => ?_⟩, by simp, ⟨k1, by simpa only [maxLen] using k2⟩, by simp⟩
    have hi' : i < ps.length := by simpa using hi
    have ad : ∀ j, (⟨g', 0, none⟩ : Addr).add j = ⟨g', 0 + j, none⟩ := fun j => by unfold Addr.add; split <;> simp_all
    have hgi : (ps.map (·.2))[i] = ps[i].2 := by simp
    rw [hgi]
    refine ⟨ps[i].1, fun j hj => ?_, hr _ (List.getElem_mem _)⟩
    have e2 := cellsR_at ps i hi' j hj
    have hlt : j < (recCells ps[i].1 ps[i].2).length := hj
    rw [List.getElem?_eq_getElem hlt] at e2 ⊢
    have := h.cells (g := g') rfl _ _ e2
    rw [ad] at this
    rw [Nat.add_assoc]; exact this
set_option maxRecDepth 100000 in
set_option maxHeartbeats 1000000 in
theorem clone50 (s : Sl) (rs : List Rec) (w : World) (h : LsRd w s rs) (h1 : 1 ≤ s.n) (hn : s.n ≤ 1000000) : Calls Try.prog 50 #[(.slice s.a s.n s.c)] w fun e w' => ∃ g cap, e = .returned (.slice (some ⟨g, 0, none⟩) s.n cap) ∧ Hid (LsRd w' ⟨some ⟨g, 0, none⟩, s.n, cap⟩ rs ∧ Below w.heap.size w w') := by
  have hne : rs ≠ [] := by intro e; have := h.len; rw [e] at this; simp at this; omega
  obtain ⟨b, o, ha⟩ : ∃ b o, s.a = some ⟨b, o, none⟩ := by
    rcases h.rd with e | ⟨b, o, e, _⟩
    · exact absurd e hne
    · exact ⟨b, o, e⟩
  obtain ⟨ps, p1, p2, p3⟩ := lsrd_parts h ha
  have hpl : ps.length = s.n := by rw [← h.len, ← p1]; simp
  have hbb : b < w.heap.size := by
    rcases h.rd with e | ⟨b', o', e, e2, _⟩
    · exact absurd e hne
    · rw [ha] at e; cases e; exact e2
  subst p1
  clear h hne
  obtain ⟨sa, n, sc⟩ := s
  simp only at *
  subst ha
  subst hpl
  obtain ⟨i37, hi, hz0, hz1, hz2⟩ := inf69'
  have HI : Hid (Try.prog.info? 37 = some i37 ∧ i37.zero = some (.agg #[.slice none 0 0, .int .u16 0, .int .u16 0, .int .u32 0, .slice none 0 0, .slice none 0 0, .slice none 0 0, .slice none 0 0]) ∧ i37.size = 8 ∧ i37.bytes = 128) := ⟨hi, hz0, hz1, hz2⟩
  clear hi hz0 hz1 hz2
  have nb := newE_below w (.cells #[] 37)
  have HNB : Hid (Below w.heap.size w (w.alloc (.cells #[] 37))) := nb
  have HOW : Hid ((w.alloc (.cells #[] 37)).ownsRow w.heap.size 37 8 (.slice (some ⟨w.heap.size, 0, none⟩) 0 0) 0 []) := ⟨rfl, .inr ⟨w.heap.size, 0, #[], rfl, Nat.le_refl _, heap_alloc_new _ _, Nat.le_refl _, by simp [maxLen], rfl, rfl⟩⟩
  have HC : Hid (∀ j u, (cellsR ps)[j]? = some u → (w.alloc (.cells #[] 37)).cell? ((⟨b, o, none⟩ : Addr).add j) = some u) := fun j u hu => by
    have ad : (⟨b, o, none⟩ : Addr).add j = ⟨b, o + j, none⟩ := by unfold Addr.add; split <;> simp_all
    have := p2 j u hu
    rw [ad] at this ⊢
    exact (nb.cell (p := ⟨b, o + j, none⟩) hbb).trans this
  have HL : Hid ((cellsR ps).length = ps.length * 8) := (show _ = _ by
    clear HC p2 p3 h1 hn
    induction ps with
    | nil => rfl
    | cons p l ih => simp only [cellsR, List.flatMap_cons, List.length_append] at ih ⊢; rw [ih]; simp [recCells]; omega)
  have HP3 := Lib.hid p3
  have HONE : Hid (∀ u ∈ cellsR ps, u.oneCell' = true) := fun u hu => by
    simp only [cellsR, List.mem_flatMap] at hu
    obtain ⟨p, _, hu⟩ := hu
    simp [recCells] at hu
    rcases hu with rfl | rfl | rfl | rfl | rfl | rfl | rfl | rfl <;> rfl
  have HSZ : Hid (w.heap.size ≤ (w.alloc (.cells #[] 37)).heap.size) := nb.size
  have hnil := rec_is_nil (some ⟨b, o, none⟩) ps.length sc w
  clear p2 p3 nb
  obtain ⟨n, hnn⟩ : ∃ n, n = ps.length := ⟨_, rfl⟩
  have HNN : Hid (n = ps.length) := hnn
  rw [← hnn] at h1 hn hnil HL ⊢
  clear hnn
  go_enter Try.func50, Try.ntmps50
  go_wp2_with (at_builtin; refine wpList_append_lies _ rfl _ _ 52 rfl w.heap.size 37 i37 _ 8 128 Try.underlying52 HI.out.1 HI.out.2.1 HI.out.2.2.1 HI.out.2.2.2 rfl (by omega) (.slice (some ⟨w.heap.size, 0, none⟩) 0 0) 0 [] rfl HOW.out ⟨b, o, none⟩ n sc (cellsR ps) rfl HL.out HC.out HONE.out (by omega) (by simp only [maxLen]; omega) (by omega) HSZ.out _ rfl ?_; intro g cap w' h5 h6 h7 h8; have H5 := Lib.hid h5; have H6 := Lib.hid h6; clear h5 h6 h7 h8)
  go_ret
  have hb : Below w.heap.size w w' := HNB.out.grown H6.out HNB.out.size (fun k e => by have := Option.some.inj e; simp only at this; omega)
  refine ⟨g, cap, ?_, ?_, hb⟩
  · simp
  · have h5 := H5.out
    simp only [Nat.zero_add, List.nil_append, HNN.out] at h5
    rw [HNN.out]
    exact row_lsrd h5 (fun p hp => RRd_below (HP3.out p hp) hb)
set_option maxRecDepth 100000 in
set_option maxHeartbeats 1000000 in
theorem delete49_none (s : Sl) (rs : List Rec) (w : World) (h : LsRd w s rs) (ho : ∀ r ∈ rs, isO r = true) : Calls Try.prog 49 #[(.slice s.a s.n s.c), .func (.func 51) #[] #[]] w fun e w' => e = .returned (.slice s.a s.n s.c) ∧ Hid (Below w.heap.size w w') := by
  have K := Lib.hid (index69_51 (fun r => !isO r) asks51 s rs w h)
  have HO : Hid (∀ r ∈ rs, isO r = true) := ho
  clear h ho
  obtain ⟨sa, n, sc⟩ := s
  simp only at *
  go_enter Try.func49, Try.ntmps49
  go_wp2_with fail
  refine K.out.mono ?_
  rintro e w1 (⟨k, hk, h1, h2, rfl, H1⟩ | ⟨h2, rfl, H1⟩)
  · have := HO.out _ (List.getElem_mem hk)
    have h1' : (!isO rs[k]) = true := h1
    rw [this] at h1'
    cases h1'
  · clear h2
    go_wp2
    go_ret
    exact ⟨rfl, H1.out⟩
end Go.Proofs.Ytgeoadkcmbageaa
namespace Go.Proofs.Ytgeoadkcmbageaa
open Go.ChangeShapes Go.WideShapes Go.ChangeAt Go.RowKit
set_option linter.unusedVariables false
set_option linter.unusedSimpArgs false
set_option maxRecDepth 100000 in
set_option maxHeartbeats 2000000 in
theorem of21_none (v0 v1 v2 v3 v4 v5 v6 v7 v8 v9 v10 v11 v12 : Value) (w : World) : Calls Try.prog 21 #[.agg #[v0, v1, v2, v3, v4, v5, v6, v7, v8, v9, v10, v11, v12, .slice none 0 0]] w fun e w' => e = .returned (.tuple #[.agg #[.int .i64 0, .int .i64 0, .int .i64 0, .bool false, .slice none 0 0], .bool false, .int .i64 0]) ∧ Hid (Below w.heap.size w w') := by
  have K50 := fun W => Lib.hid (clone50_nil W)
  have K49 := fun W => Lib.hid (delete49_none nilS [] W (lsrd_none W) (fun r hr => (by cases hr)))
  simp only [nilS] at K49
  obtain ⟨V, hV⟩ : ∃ V, V = (w.alloc (.cells #[v0, v1, v2, v3, v4, v5, v6, v7, v8, v9, v10, v11, v12, .slice none 0 0] 54)).alloc (.cells #[.int .i64 0, .int .i64 0, .int .i64 0, .bool false, .slice none 0 0] 24) := ⟨_, rfl⟩
  have HV : Hid (Below w.heap.size w V ∧ V.heap[w.heap.size]? = some (.cells #[v0, v1, v2, v3, v4, v5, v6, v7, v8, v9, v10, v11, v12, .slice none 0 0] 54) ∧ V.heap[w.heap.size + 1]? = some (.cells #[.int .i64 0, .int .i64 0, .int .i64 0, .bool false, .slice none 0 0] 24)) := by
    rw [hV]
    refine ⟨((Below.refl _ _).alloc (Nat.le_refl _) _).alloc (by simp) _, block_alloc (alloc_at _ _) _, ?_⟩
    have := alloc_at (w.alloc (.cells #[v0, v1, v2, v3, v4, v5, v6, v7, v8, v9, v10, v11, v12, .slice none 0 0] 54)) (.cells #[.int .i64 0, .int .i64 0, .int .i64 0, .bool false, .slice none 0 0] 24)
    simp only [World.size_alloc] at this
    exact this
  go_enter Try.func21, Try.ntmps21
  go_wp2_with fail
  rw [← hV]
  clear hV
  obtain ⟨b, hb⟩ : ∃ b, b = w.heap.size := ⟨_, rfl⟩
  have HBB : Hid (b = w.heap.size) := hb
  have HV0 : Hid (Below w.heap.size w V) := HV.out.1
  have HV2 : Hid (V.heap[b + 1]? = some (.cells #[.int .i64 0, .int .i64 0, .int .i64 0, .bool false, .slice none 0 0] 24)) := (show _ = _ by rw [hb]; exact HV.out.2.2)
  have m1 : V.heap[b]? = some (.cells #[v0, v1, v2, v3, v4, v5, v6, v7, v8, v9, v10, v11, v12, .slice none 0 0] 54) := by rw [hb]; exact HV.out.2.1
  rw [← hb]
  clear hb HV
  have k13 := box_cell m1 13 _ rfl
  have lb := box_lt m1
  clear m1
  go_wp2_with fail
  refine (K50 _).out.mono ?_
  rintro e w1 ⟨rfl, hw1⟩
  subst hw1
  go_wp2_with fail
  refine (K49 _).out.mono ?_
  rintro e w2 ⟨rfl, H2⟩
  have z := Lib.hid ((H2.out.block (b + 1) (box_lt HV2.out)).trans HV2.out)
  have HB2 : Hid (Below w.heap.size w w2) := HV0.out.trans (H2.out.mono HV0.out.size)
  have z0 : w2.cell? ⟨b + 1, 0, none⟩ = some (.int .i64 0) := (cell_of_block z.out rfl)
  have z1 : w2.cell? ⟨b + 1, 1, none⟩ = some (.int .i64 0) := (cell_of_block z.out rfl)
  have z2 : w2.cell? ⟨b + 1, 2, none⟩ = some (.int .i64 0) := (cell_of_block z.out rfl)
  have z3 : w2.cell? ⟨b + 1, 3, none⟩ = some (.bool false) := (cell_of_block z.out rfl)
  have z4 : w2.cell? ⟨b + 1, 4, none⟩ = some (.slice none 0 0) := (cell_of_block z.out rfl)
  have f0 : w2.frozen? ⟨b + 1, 0, none⟩ = false := (frozen_of_block z.out)
  have f1 : w2.frozen? ⟨b + 1, 1, none⟩ = false := (frozen_of_block z.out)
  have f2 : w2.frozen? ⟨b + 1, 2, none⟩ = false := (frozen_of_block z.out)
  have f3 : w2.frozen? ⟨b + 1, 3, none⟩ = false := (frozen_of_block z.out)
  have f4 : w2.frozen? ⟨b + 1, 4, none⟩ = false := (frozen_of_block z.out)
  have p7 := block_lt z.out
  go_wp2_with fail
  have z8 : (((((w2.setCell ⟨b + 1, 0, none⟩ (.int .i64 0)).setCell ⟨b + 1, 1, none⟩ (.int .i64 0)).setCell ⟨b + 1, 2, none⟩ (.int .i64 0)).setCell ⟨b + 1, 3, none⟩ (.bool false)).setCell ⟨b + 1, 4, none⟩ (.slice none 0 0)).heap[b + 1]? = some (.cells #[.int .i64 0, .int .i64 0, .int .i64 0, .bool false, .slice none 0 0] 24) := put5e z.out _ _ _ _ _
  have HO8 : Hid (∀ j, j ≠ b + 1 → (((((w2.setCell ⟨b + 1, 0, none⟩ (.int .i64 0)).setCell ⟨b + 1, 1, none⟩ (.int .i64 0)).setCell ⟨b + 1, 2, none⟩ (.int .i64 0)).setCell ⟨b + 1, 3, none⟩ (.bool false)).setCell ⟨b + 1, 4, none⟩ (.slice none 0 0)).heap[j]? = w2.heap[j]?) := fun j hj => put5e_other w2 (b + 1) _ _ _ _ _ j hj
  have HB8 : Hid (Below (b + 1) w2 (((((w2.setCell ⟨b + 1, 0, none⟩ (.int .i64 0)).setCell ⟨b + 1, 1, none⟩ (.int .i64 0)).setCell ⟨b + 1, 2, none⟩ (.int .i64 0)).setCell ⟨b + 1, 3, none⟩ (.bool false)).setCell ⟨b + 1, 4, none⟩ (.slice none 0 0))) := put5e_below w2 (b + 1) _ _ _ _ _
  generalize (((((w2.setCell ⟨b + 1, 0, none⟩ (.int .i64 0)).setCell ⟨b + 1, 1, none⟩ (.int .i64 0)).setCell ⟨b + 1, 2, none⟩ (.int .i64 0)).setCell ⟨b + 1, 3, none⟩ (.bool false)).setCell ⟨b + 1, 4, none⟩ (.slice none 0 0)) = w8 at *
  have y0 : w8.cell? ⟨b + 1, 0, none⟩ = some (.int .i64 0) := cell_of_block z8 rfl
  have y1 : w8.cell? ⟨b + 1, 1, none⟩ = some (.int .i64 0) := cell_of_block z8 rfl
  have y2 : w8.cell? ⟨b + 1, 2, none⟩ = some (.int .i64 0) := cell_of_block z8 rfl
  have y3 : w8.cell? ⟨b + 1, 3, none⟩ = some (.bool false) := cell_of_block z8 rfl
  have y4 : w8.cell? ⟨b + 1, 4, none⟩ = some (.slice none 0 0) := cell_of_block z8 rfl
  have y8 := block_lt z8
  clear z8 z0 f0 z1 f1 z2 f2 z3 f3 z4 f4
  have hbb := HBB.out
  have HBW : Hid (Below w.heap.size w w8) := HB2.out.trans (HB8.out.mono (by omega))
  refine bodyPost_ret (v := .tuple #[.agg #[.int .i64 0, .int .i64 0, .int .i64 0, .bool false, .slice none 0 0], .bool false, .int .i64 0]) ?_ rfl ⟨rfl, HBW.out⟩
  simp [results, Try.results21, go_sem, y0, y1, y2, y3, y4]
set_option maxRecDepth 100000 in
set_option maxHeartbeats 2000000 in
theorem of21_two (v0 v1 v2 v3 v4 v5 v6 v7 v8 v9 v10 v11 v12 : Value) (s : Sl) (rs : List Rec) (w : World) (h : LsRd w s rs) (h2 : 2 ≤ s.n) (hn : s.n ≤ 1000000) (ho : ∀ r ∈ rs, isO r = true) : Calls Try.prog 21 #[.agg #[v0, v1, v2, v3, v4, v5, v6, v7, v8, v9, v10, v11, v12, .slice s.a s.n s.c]] w fun e w' => e = .returned (.tuple #[.agg #[.int .i64 0, .int .i64 0, .int .i64 0, .bool false, .slice none 0 0], .bool false, .int .i64 10]) ∧ Hid (Below w.heap.size w w') := by
  have HR : Hid (LsRd w s rs) := h
  have HO : Hid (∀ r ∈ rs, isO r = true) := ho
  clear h ho
  obtain ⟨sa, sn, sc⟩ := s
  simp only at *
  obtain ⟨V, hV⟩ : ∃ V, V = (w.alloc (.cells #[v0, v1, v2, v3, v4, v5, v6, v7, v8, v9, v10, v11, v12, .slice sa sn sc] 54)).alloc (.cells #[.int .i64 0, .int .i64 0, .int .i64 0, .bool false, .slice none 0 0] 24) := ⟨_, rfl⟩
  have HV : Hid (Below w.heap.size w V ∧ V.heap[w.heap.size]? = some (.cells #[v0, v1, v2, v3, v4, v5, v6, v7, v8, v9, v10, v11, v12, .slice sa sn sc] 54) ∧ V.heap[w.heap.size + 1]? = some (.cells #[.int .i64 0, .int .i64 0, .int .i64 0, .bool false, .slice none 0 0] 24)) := by
    rw [hV]
    refine ⟨((Below.refl _ _).alloc (Nat.le_refl _) _).alloc (by simp) _, block_alloc (alloc_at _ _) _, ?_⟩
    have := alloc_at (w.alloc (.cells #[v0, v1, v2, v3, v4, v5, v6, v7, v8, v9, v10, v11, v12, .slice sa sn sc] 54)) (.cells #[.int .i64 0, .int .i64 0, .int .i64 0, .bool false, .slice none 0 0] 24)
    simp only [World.size_alloc] at this
    exact this
  go_enter Try.func21, Try.ntmps21
  go_wp2_with fail
  rw [← hV]
  clear hV
  obtain ⟨b, hb⟩ : ∃ b, b = w.heap.size := ⟨_, rfl⟩
  have HBB : Hid (b = w.heap.size) := hb
  have HV0 : Hid (Below w.heap.size w V) := HV.out.1
  have HV2 : Hid (V.heap[b + 1]? = some (.cells #[.int .i64 0, .int .i64 0, .int .i64 0, .bool false, .slice none 0 0] 24)) := (show _ = _ by rw [hb]; exact HV.out.2.2)
  have m1 : V.heap[b]? = some (.cells #[v0, v1, v2, v3, v4, v5, v6, v7, v8, v9, v10, v11, v12, .slice sa sn sc] 54) := by rw [hb]; exact HV.out.2.1
  rw [← hb]
  clear hb HV
  have k13 := box_cell m1 13 _ rfl
  have lb := box_lt m1
  clear m1
  have K50 := Lib.hid (clone50 ⟨sa, sn, sc⟩ rs V (HR.out.below HV0.out) (show 1 ≤ sn by omega) hn)
  simp only at K50
  go_wp2_with fail
  refine K50.out.mono ?_
  rintro e w1 ⟨g, cap, rfl, H1⟩
  have K49 := Lib.hid (delete49_none ⟨some ⟨g, 0, none⟩, sn, cap⟩ rs w1 H1.out.1 HO.out)
  simp only at K49
  have HB1 : Hid (Below V.heap.size V w1) := H1.out.2
  clear K50 H1
  go_wp2_with fail
  refine K49.out.mono ?_
  rintro e w2 ⟨rfl, H2⟩
  have HB12 : Hid (Below V.heap.size V w2) := HB1.out.trans (H2.out.mono HB1.out.size)
  have z := Lib.hid ((HB12.out.block (b + 1) (box_lt HV2.out)).trans HV2.out)
  have HB2 : Hid (Below w.heap.size w w2) := HV0.out.trans (HB12.out.mono HV0.out.size)
  have hg1 : (1 : Int) < (sn : Int) := by omega
  have hg0 : ((sn : Int) == 0) = false := by simp; omega
  have hg00 : ¬ (sn : Int) = 0 := by omega
  have z0 : w2.cell? ⟨b + 1, 0, none⟩ = some (.int .i64 0) := (cell_of_block z.out rfl)
  have z1 : w2.cell? ⟨b + 1, 1, none⟩ = some (.int .i64 0) := (cell_of_block z.out rfl)
  have z2 : w2.cell? ⟨b + 1, 2, none⟩ = some (.int .i64 0) := (cell_of_block z.out rfl)
  have z3 : w2.cell? ⟨b + 1, 3, none⟩ = some (.bool false) := (cell_of_block z.out rfl)
  have z4 : w2.cell? ⟨b + 1, 4, none⟩ = some (.slice none 0 0) := (cell_of_block z.out rfl)
  have f0 : w2.frozen? ⟨b + 1, 0, none⟩ = false := (frozen_of_block z.out)
  have f1 : w2.frozen? ⟨b + 1, 1, none⟩ = false := (frozen_of_block z.out)
  have f2 : w2.frozen? ⟨b + 1, 2, none⟩ = false := (frozen_of_block z.out)
  have f3 : w2.frozen? ⟨b + 1, 3, none⟩ = false := (frozen_of_block z.out)
  have f4 : w2.frozen? ⟨b + 1, 4, none⟩ = false := (frozen_of_block z.out)
  have p7 := block_lt z.out
  go_wp2_with fail
  have z8 : (((((w2.setCell ⟨b + 1, 0, none⟩ (.int .i64 0)).setCell ⟨b + 1, 1, none⟩ (.int .i64 0)).setCell ⟨b + 1, 2, none⟩ (.int .i64 0)).setCell ⟨b + 1, 3, none⟩ (.bool false)).setCell ⟨b + 1, 4, none⟩ (.slice none 0 0)).heap[b + 1]? = some (.cells #[.int .i64 0, .int .i64 0, .int .i64 0, .bool false, .slice none 0 0] 24) := put5e z.out _ _ _ _ _
  have HO8 : Hid (∀ j, j ≠ b + 1 → (((((w2.setCell ⟨b + 1, 0, none⟩ (.int .i64 0)).setCell ⟨b + 1, 1, none⟩ (.int .i64 0)).setCell ⟨b + 1, 2, none⟩ (.int .i64 0)).setCell ⟨b + 1, 3, none⟩ (.bool false)).setCell ⟨b + 1, 4, none⟩ (.slice none 0 0)).heap[j]? = w2.heap[j]?) := fun j hj => put5e_other w2 (b + 1) _ _ _ _ _ j hj
  have HB8 : Hid (Below (b + 1) w2 (((((w2.setCell ⟨b + 1, 0, none⟩ (.int .i64 0)).setCell ⟨b + 1, 1, none⟩ (.int .i64 0)).setCell ⟨b + 1, 2, none⟩ (.int .i64 0)).setCell ⟨b + 1, 3, none⟩ (.bool false)).setCell ⟨b + 1, 4, none⟩ (.slice none 0 0))) := put5e_below w2 (b + 1) _ _ _ _ _
  generalize (((((w2.setCell ⟨b + 1, 0, none⟩ (.int .i64 0)).setCell ⟨b + 1, 1, none⟩ (.int .i64 0)).setCell ⟨b + 1, 2, none⟩ (.int .i64 0)).setCell ⟨b + 1, 3, none⟩ (.bool false)).setCell ⟨b + 1, 4, none⟩ (.slice none 0 0)) = w8 at *
  have y0 : w8.cell? ⟨b + 1, 0, none⟩ = some (.int .i64 0) := cell_of_block z8 rfl
  have y1 : w8.cell? ⟨b + 1, 1, none⟩ = some (.int .i64 0) := cell_of_block z8 rfl
  have y2 : w8.cell? ⟨b + 1, 2, none⟩ = some (.int .i64 0) := cell_of_block z8 rfl
  have y3 : w8.cell? ⟨b + 1, 3, none⟩ = some (.bool false) := cell_of_block z8 rfl
  have y4 : w8.cell? ⟨b + 1, 4, none⟩ = some (.slice none 0 0) := cell_of_block z8 rfl
  have y8 := block_lt z8
  clear z8 z0 f0 z1 f1 z2 f2 z3 f3 z4 f4
  have hbb := HBB.out
  have HBW : Hid (Below w.heap.size w w8) := HB2.out.trans (HB8.out.mono (by omega))
  refine bodyPost_ret (v := .tuple #[.agg #[.int .i64 0, .int .i64 0, .int .i64 0, .bool false, .slice none 0 0], .bool false, .int .i64 10]) ?_ rfl ⟨rfl, HBW.out⟩
  simp [results, Try.results21, go_sem, y0, y1, y2, y3, y4]
/-- A record that says something, but for its options. -/
def InR (r : Rec) : Prop := r.t = 41 ∧ r.ow = [] ∧ r.tt % 32768 = 0 ∧ r.d.ns = [] ∧ r.d.us = [] ∧ r.d.ts = [] ∧ r.d.raw.length ≤ 65535
theorem InR.inf {w : World} {x : RA} {r : Rec} (h : InR r) (hr : RRd w x r) : InF x r := by
  obtain ⟨h1, h2, h3, h4, h5, h6, h7⟩ := h
  refine ⟨h1, ?_, h3, ?_, ?_, ?_, ?_⟩
  · rw [← hr.1.len, h2]; rfl
  · rw [← hr.2.h1.len, h4]; rfl
  · rw [← hr.2.h2.len, h5]; rfl
  · rw [← hr.2.h3.len, h6]; rfl
  · rw [← hr.2.h4.len]; exact h7
set_option maxRecDepth 100000 in
set_option maxHeartbeats 4000000 in
theorem of21_one (v0 v1 v2 v3 v4 v5 v6 v7 v8 v9 v10 v11 v12 : Value) (s : Sl) (r : Rec) (l : List Opt) (w : World) (h : LsRd w s [r]) (hr : InR r) (hc : r.cl < 65536) (ht : r.tt < 4294967296) (hg : gopt r.d.raw = some l) : Calls Try.prog 21 #[.agg #[v0, v1, v2, v3, v4, v5, v6, v7, v8, v9, v10, v11, v12, .slice s.a s.n s.c]] w fun e w' => ∃ y : Sl, e = .returned (.tuple #[.agg #[.int .i64 (edE r l).sz, .int .i64 (edE r l).hi, .int .i64 (edE r l).ve, .bool (edE r l).dd, .slice y.a y.n y.c], .bool true, .int .i64 0]) ∧ Hid (OsRd w' y l ∧ Below w.heap.size w w') := by
  have HR : Hid (LsRd w s [r]) := h
  have HIN : Hid (InR r ∧ r.cl < 65536 ∧ r.tt < 4294967296 ∧ gopt r.d.raw = some l) := ⟨hr, hc, ht, hg⟩
  have hs1 : s.n = 1 := h.len.symm
  obtain ⟨sa, sn, sc⟩ := s
  simp only at hs1
  subst hs1
  clear h hr hc ht hg
  have HEX : Hid (edE r l = edE r l) := (show _ = _ from rfl)
  generalize hE : edE r l = EE at *
  have HE : Hid (edE r l = EE) := hE
  clear hE HEX
  obtain ⟨V, hV⟩ : ∃ V, V = (w.alloc (.cells #[v0, v1, v2, v3, v4, v5, v6, v7, v8, v9, v10, v11, v12, .slice sa 1 sc] 54)).alloc (.cells #[.int .i64 0, .int .i64 0, .int .i64 0, .bool false, .slice none 0 0] 24) := ⟨_, rfl⟩
  have HV : Hid (Below w.heap.size w V ∧ V.heap[w.heap.size]? = some (.cells #[v0, v1, v2, v3, v4, v5, v6, v7, v8, v9, v10, v11, v12, .slice sa 1 sc] 54) ∧ V.heap[w.heap.size + 1]? = some (.cells #[.int .i64 0, .int .i64 0, .int .i64 0, .bool false, .slice none 0 0] 24)) := by
    rw [hV]
    refine ⟨((Below.refl _ _).alloc (Nat.le_refl _) _).alloc (by simp) _, block_alloc (alloc_at _ _) _, ?_⟩
    have := alloc_at (w.alloc (.cells #[v0, v1, v2, v3, v4, v5, v6, v7, v8, v9, v10, v11, v12, .slice sa 1 sc] 54)) (.cells #[.int .i64 0, .int .i64 0, .int .i64 0, .bool false, .slice none 0 0] 24)
    simp only [World.size_alloc] at this
    exact this
  go_enter Try.func21, Try.ntmps21
  go_wp2_with fail
  rw [← hV]
  clear hV
  obtain ⟨b, hb⟩ : ∃ b, b = w.heap.size := ⟨_, rfl⟩
  have HBB : Hid (b = w.heap.size) := hb
  have HV0 : Hid (Below w.heap.size w V) := HV.out.1
  have HV2 : Hid (V.heap[b + 1]? = some (.cells #[.int .i64 0, .int .i64 0, .int .i64 0, .bool false, .slice none 0 0] 24)) := (show _ = _ by rw [hb]; exact HV.out.2.2)
  have m1 : V.heap[b]? = some (.cells #[v0, v1, v2, v3, v4, v5, v6, v7, v8, v9, v10, v11, v12, .slice sa 1 sc] 54) := by rw [hb]; exact HV.out.2.1
  rw [← hb]
  clear hb HV
  have k13 := box_cell m1 13 _ rfl
  have lb := box_lt m1
  clear m1
  have K50 := Lib.hid (clone50 ⟨sa, 1, sc⟩ [r] V (HR.out.below HV0.out) (show 1 ≤ 1 by omega) (show 1 ≤ 1000000 by omega))
  simp only at K50
  go_wp2_with fail
  refine K50.out.mono ?_
  rintro e w1 ⟨g, cap, rfl, H1⟩
  have K49 := Lib.hid (delete49_none ⟨some ⟨g, 0, none⟩, 1, cap⟩ [r] w1 H1.out.1 (fun q hq => by rw [List.mem_singleton.1 hq]; exact decide_eq_true HIN.out.1.1))
  simp only at K49
  have HB1 : Hid (Below V.heap.size V w1) := H1.out.2
  have HL1 : Hid (LsRd w1 ⟨some ⟨g, 0, none⟩, 1, cap⟩ [r]) := H1.out.1
  clear K50 H1
  go_wp2_with fail
  refine K49.out.mono ?_
  rintro e w2 ⟨rfl, H2⟩
  have HB12 : Hid (Below V.heap.size V w2) := HB1.out.trans (H2.out.mono HB1.out.size)
  obtain ⟨b', o', e1, e2, x, e3, e4⟩ := (HL1.out.below H2.out).rd.at 0 (by simp)
  simp only [Option.some.injEq, Addr.mk.injEq] at e1
  obtain ⟨rfl, rfl, _⟩ := e1
  simp only [List.getElem_cons_zero] at e3 e4
  have HX := Lib.hid e4
  have c0 := e3 0 (by omega)
  have c1 := e3 1 (by omega)
  have c2 := e3 2 (by omega)
  have c3 := e3 3 (by omega)
  have c4 := e3 4 (by omega)
  have c5 := e3 5 (by omega)
  have c6 := e3 6 (by omega)
  have c7 := e3 7 (by omega)
  have K13 := Lib.hid (read13_yes x r w2 l HIN.out.2.2.1 HIN.out.2.1 (HIN.out.1.inf e4) e4.2.h4 HIN.out.2.2.2)
  rw [HE.out] at K13
  obtain ⟨⟨xa, xn, xc⟩, ⟨⟨xa1, xn1, xc1⟩, ⟨xa2, xn2, xc2⟩, ⟨xa3, xn3, xc3⟩, ⟨xa4, xn4, xc4⟩⟩⟩ := x
  obtain ⟨ow, t, cl, tt, d⟩ := r
  simp only [recCells, Nat.add_zero, Nat.zero_mul, Nat.zero_add, List.getElem?_cons_zero, List.getElem?_cons_succ] at c0 c1 c2 c3 c4 c5 c6 c7 K13
  clear e3 e4 K49
  go_wp2_with fail
  refine K13.out.mono ?_
  rintro e w3 ⟨⟨ya, yn, yc⟩, rfl, H3⟩
  have HB3 : Hid (Below V.heap.size V w3) := HB12.out.trans (H3.out.2.mono HB12.out.size)
  have hn := newE_below w3 (.cells #[.int .i64 EE.sz, .int .i64 EE.hi, .int .i64 EE.ve, .bool EE.dd, .slice ya yn yc] 24)
  have hnx : (w3.alloc (.cells #[.int .i64 EE.sz, .int .i64 EE.hi, .int .i64 EE.ve, .bool EE.dd, .slice ya yn yc] 24)).heap[w3.heap.size]? = some (.cells #[.int .i64 EE.sz, .int .i64 EE.hi, .int .i64 EE.ve, .bool EE.dd, .slice ya yn yc] 24) := heap_alloc_new _ _
  have HB4 : Hid (Below V.heap.size V (w3.alloc (.cells #[.int .i64 EE.sz, .int .i64 EE.hi, .int .i64 EE.ve, .bool EE.dd, .slice ya yn yc] 24))) := HB3.out.trans (hn.mono HB3.out.size)
  have HOW : Hid (OwO w2.heap.size (w3.alloc (.cells #[.int .i64 EE.sz, .int .i64 EE.hi, .int .i64 EE.ve, .bool EE.dd, .slice ya yn yc] 24)) (.slice ya yn yc) l) := H3.out.1.stay hn
  have j0 := box_cell hnx 0 _ rfl
  have j1 := box_cell hnx 1 _ rfl
  have j2 := box_cell hnx 2 _ rfl
  have j3 := box_cell hnx 3 _ rfl
  have j4 := box_cell hnx 4 _ rfl
  have jl := box_lt hnx
  have HS2 : Hid (V.heap.size ≤ w2.heap.size) := HB12.out.size
  clear hn hnx c0 c1 c2 c3 c4 c5 c6 c7 K13 HB3 H3 HX HB12
  go_upto_region 7 with fail
  generalize w3.alloc (.cells #[.int .i64 EE.sz, .int .i64 EE.hi, .int .i64 EE.ve, .bool EE.dd, .slice ya yn yc] 24) = w4 at *
  obtain ⟨q1, hq1⟩ : ∃ q1, q1 = w3.heap.size := ⟨_, rfl⟩
  simp only [← hq1] at j0 j1 j2 j3 j4 jl ⊢
  clear hq1
  have z := Lib.hid ((HB4.out.block (b + 1) (box_lt HV2.out)).trans HV2.out)
  have HB2 : Hid (Below w.heap.size w w4) := HV0.out.trans (HB4.out.mono HV0.out.size)
  have z0 : w4.cell? ⟨b + 1, 0, none⟩ = some (.int .i64 0) := (cell_of_block z.out rfl)
  have z1 : w4.cell? ⟨b + 1, 1, none⟩ = some (.int .i64 0) := (cell_of_block z.out rfl)
  have z2 : w4.cell? ⟨b + 1, 2, none⟩ = some (.int .i64 0) := (cell_of_block z.out rfl)
  have z3 : w4.cell? ⟨b + 1, 3, none⟩ = some (.bool false) := (cell_of_block z.out rfl)
  have z4 : w4.cell? ⟨b + 1, 4, none⟩ = some (.slice none 0 0) := (cell_of_block z.out rfl)
  have f0 : w4.frozen? ⟨b + 1, 0, none⟩ = false := (frozen_of_block z.out)
  have f1 : w4.frozen? ⟨b + 1, 1, none⟩ = false := (frozen_of_block z.out)
  have f2 : w4.frozen? ⟨b + 1, 2, none⟩ = false := (frozen_of_block z.out)
  have f3 : w4.frozen? ⟨b + 1, 3, none⟩ = false := (frozen_of_block z.out)
  have f4 : w4.frozen? ⟨b + 1, 4, none⟩ = false := (frozen_of_block z.out)
  have p7 := block_lt z.out
  go_wp2_with fail
  have z8 : (((((w4.setCell ⟨b + 1, 0, none⟩ (.int .i64 EE.sz)).setCell ⟨b + 1, 1, none⟩ (.int .i64 EE.hi)).setCell ⟨b + 1, 2, none⟩ (.int .i64 EE.ve)).setCell ⟨b + 1, 3, none⟩ (.bool EE.dd)).setCell ⟨b + 1, 4, none⟩ (.slice ya yn yc)).heap[b + 1]? = some (.cells #[.int .i64 EE.sz, .int .i64 EE.hi, .int .i64 EE.ve, .bool EE.dd, .slice ya yn yc] 24) := put5e z.out _ _ _ _ _
  have HO8 : Hid (∀ j, j ≠ b + 1 → (((((w4.setCell ⟨b + 1, 0, none⟩ (.int .i64 EE.sz)).setCell ⟨b + 1, 1, none⟩ (.int .i64 EE.hi)).setCell ⟨b + 1, 2, none⟩ (.int .i64 EE.ve)).setCell ⟨b + 1, 3, none⟩ (.bool EE.dd)).setCell ⟨b + 1, 4, none⟩ (.slice ya yn yc)).heap[j]? = w4.heap[j]?) := fun j hj => put5e_other w4 (b + 1) _ _ _ _ _ j hj
  have HB8 : Hid (Below (b + 1) w4 (((((w4.setCell ⟨b + 1, 0, none⟩ (.int .i64 EE.sz)).setCell ⟨b + 1, 1, none⟩ (.int .i64 EE.hi)).setCell ⟨b + 1, 2, none⟩ (.int .i64 EE.ve)).setCell ⟨b + 1, 3, none⟩ (.bool EE.dd)).setCell ⟨b + 1, 4, none⟩ (.slice ya yn yc))) := put5e_below w4 (b + 1) _ _ _ _ _
  generalize (((((w4.setCell ⟨b + 1, 0, none⟩ (.int .i64 EE.sz)).setCell ⟨b + 1, 1, none⟩ (.int .i64 EE.hi)).setCell ⟨b + 1, 2, none⟩ (.int .i64 EE.ve)).setCell ⟨b + 1, 3, none⟩ (.bool EE.dd)).setCell ⟨b + 1, 4, none⟩ (.slice ya yn yc)) = w8 at *
  have y0 : w8.cell? ⟨b + 1, 0, none⟩ = some (.int .i64 EE.sz) := cell_of_block z8 rfl
  have y1 : w8.cell? ⟨b + 1, 1, none⟩ = some (.int .i64 EE.hi) := cell_of_block z8 rfl
  have y2 : w8.cell? ⟨b + 1, 2, none⟩ = some (.int .i64 EE.ve) := cell_of_block z8 rfl
  have y3 : w8.cell? ⟨b + 1, 3, none⟩ = some (.bool EE.dd) := cell_of_block z8 rfl
  have y4 : w8.cell? ⟨b + 1, 4, none⟩ = some (.slice ya yn yc) := cell_of_block z8 rfl
  have y8 := block_lt z8
  clear z8 z0 f0 z1 f1 z2 f2 z3 f3 z4 f4
  have hbb := HBB.out
  have HBW : Hid (Below w.heap.size w w8) := HB2.out.trans (HB8.out.mono (by omega))
  refine bodyPost_ret (v := .tuple #[.agg #[.int .i64 EE.sz, .int .i64 EE.hi, .int .i64 EE.ve, .bool EE.dd, .slice ya yn yc], .bool true, .int .i64 0]) ?_ rfl ⟨⟨ya, yn, yc⟩, rfl, ?_, HBW.out⟩
  simp [results, Try.results21, go_sem, y0, y1, y2, y3, y4]
  have hgb : w4.grownBy w8 (some (b + 1)) := ⟨HB8.out.os, HB8.out.tape, HB8.out.output, HB8.out.size, fun k hk hne => HO8.out k (fun e => hne (by rw [e]))⟩
  obtain ⟨y', h1, h2⟩ := (HOW.out.mv hgb (Nat.lt_of_lt_of_le (box_lt HV2.out) HS2.out)).rd
  obtain ⟨ya', yn', yc'⟩ := y'
  simp only [Value.slice.injEq] at h1
  obtain ⟨rfl, rfl, rfl⟩ := h1
  exact h2
end Go.Proofs.Ytgeoadkcmbageaa
