/- Texts laid together, in parts: Ftj Ftk Ftl Ftc Ftd Fte Ftf Ftq Ftr Nxc. -/
import Derived.Test.YtkjnbgekaifdfaaGreatWgf
import Derived.Lib.AppendZerosOnto
import Derived.Deep.RegionLaw
import Derived.RangeFuncNested
import Derived.RangeFuncBound
import Derived.RangeFuncCalls
import Derived.RangeFuncLeaves
import Derived.RangeFuncBox
import Derived.Shelf.Abstract
import Derived.Shelf.RegionOpen
import Derived.OwnWalkIn
import Derived.TacticsInMore
import Derived.LoopNIn
import Derived.LoopIn
namespace Go.Proofs.YtkjnbgekaifdfaaGreat
open Go.ChangeShapes Go.WideShapes Go.ChangeAt Go.RowKit
set_option linter.unusedVariables false
set_option linter.unusedSimpArgs false
theorem zc_size (n : Nat) : (Builtin.zeroCells (Value.agg #[.slice none 0 0, .int .u16 0, .int .u16 0, .int .u32 0, .slice none 0 0, .slice none 0 0, .slice none 0 0, .slice none 0 0]).cells n).size = n * 8 := by
  simp [Builtin.zeroCells, Value.cells]
def GrR (w : World) (e : Ending) (w' : World) : Prop := ∃ (a : Option Addr) (c : Nat), e = .returned (.slice a 0 c) ∧ Hid (w'.ownsRow w.heap.size 62 8 (.slice a 0 c) 0 [] ∧ Below w.heap.size w w')
set_option maxRecDepth 100000 in
set_option maxHeartbeats 1000000 in
theorem grow104 (N : Nat) (w : World) (hN : N ≤ 1000000) : Calls Tryz.prog 104 #[.slice none 0 0, .int .i64 N] w (GrR w) := by
  by_cases h0 : N = 0
  · subst h0
    go_enter Tryz.func104, Tryz.ntmps104
    go_wp2
    go_ret
    exact ⟨none, 0, rfl, ⟨rfl, .inl ⟨rfl, rfl⟩⟩, Below.refl _ _⟩
  · obtain ⟨i, hi, hz0, hz1, hz2⟩ := inf61
    have hr : ∃ G cs, N ≤ G ∧ G ≤ maxLen ∧ cs.size = G * 8 ∧ ∀ ty, (Builtin.append_ #[24, 3] ty #[.slice none 0 0, .int .i64 N]).run Tryz.prog w = .ok (.slice (some ⟨w.heap.size, 0, none⟩) N G) (w.drew.alloc (.cells cs 62)) := by
      have hge := grownCap_ge w N 0 62
      refine ⟨grownCap w N 0 62, ([] : List Value).toArray ++ Builtin.zeroCells (Value.agg #[.slice none 0 0, .int .u16 0, .int .u16 0, .int .u32 0, .slice none 0 0, .slice none 0 0, .slice none 0 0, .slice none 0 0]).cells N ++ Builtin.zeroCells (Value.agg #[.slice none 0 0, .int .u16 0, .int .u16 0, .int .u32 0, .slice none 0 0, .slice none 0 0, .slice none 0 0, .slice none 0 0]).cells (grownCap w N 0 62 - N), hge, grownCap_le_maxLen w N 0 62 (by unfold maxLen; omega), ?_, fun ty => ?_⟩
      · rw [Array.size_append, Array.size_append, zc_size, zc_size]
        simp only [List.size_toArray, List.length_nil]
        omega
      · have h := Lib.run_append_grow_zeros w 24 3 ty 62 i _ .i64 .i64 Tryz.underlying24 (by kernel_rfl) hi hz0 none 0 0 [] (run_firstCells_none w.drew i.size 0 0 0) N (by omega) (by omega) (by omega) (by omega) (by rw [hz2]; omega) (growslice_fits (by omega) (by rw [hz2]; omega))
        simp only [Nat.zero_add] at h
        exact h
    obtain ⟨G, cs, hG1, hG2, hcs, hr⟩ := hr
    have HP : Hid ((w.drew.alloc (.cells cs 62)).ownsRow w.heap.size 62 8 (.slice (some ⟨w.heap.size, 0, none⟩) 0 G) 0 [] ∧ Below w.heap.size w (w.drew.alloc (.cells cs 62))) :=
      ⟨⟨rfl, .inr ⟨w.heap.size, G, cs, rfl, Nat.le_refl _, heap_alloc_new w.drew _, Nat.zero_le _, hG2, hcs, by simp⟩⟩, (Below.refl _ _).drew.alloc (Nat.le_refl _) _⟩
    unfold maxLen at hG2
    have hn : ¬ (N : Int) < 0 := by omega
    have hp : (0 : Int) < (N : Int) := by omega
    generalize w.drew.alloc (.cells cs 62) = W2 at *
    clear hi hz0 hz1 hz2
    have HR : Hid (∀ ty, (Builtin.append_ #[24, 3] ty #[.slice none 0 0, .int .i64 N]).run Tryz.prog w = .ok (.slice (some ⟨w.heap.size, 0, none⟩) N G) W2) := hr
    clear hr
    go_enter Tryz.func104, Tryz.ntmps104
    go_wp2_with (at_builtin; refine Lib.wpList_append_run _ rfl _ _ _ _ rfl _ _ rfl rfl _ _ (HR.out _) ?_)
    go_ret
    exact ⟨_, _, rfl, HP⟩
/-- Records that lie in old memory, in a row that lies there or is new. -/
def FarR (w0 w w' : World) (t : Sl) (rs : List Rec) : Prop := ∀ W, Below w0.heap.size w0 W → w'.heap.size ≤ W.heap.size → (∀ j, w.heap.size ≤ j → j < w'.heap.size → W.heap[j]? = w'.heap[j]?) → LRd W t rs
theorem FarR.get {w0 w w' : World} {t : Sl} {rs : List Rec} (h : FarR w0 w w' t rs) (hb : Below w0.heap.size w0 w') : LRd w' t rs := h w' hb (Nat.le_refl _) (fun _ _ _ => rfl)
theorem FarR.low {w0 w w1 w' : World} {t : Sl} {rs : List Rec} (h : FarR w0 w1 w' t rs) (hs : w.heap.size ≤ w1.heap.size) : FarR w0 w w' t rs := fun W h1 h2 h3 => h W h1 h2 fun j j1 j2 => h3 j (by omega) j2
theorem FarR.old {w0 w w' : World} {t : Sl} {rs : List Rec} (h : LRd w0 t rs) : FarR w0 w w' t rs := fun W h1 _ _ => h.below h1
set_option maxRecDepth 100000 in
set_option maxHeartbeats 2000000 in
theorem concat76 (g : Nat) (s1 s2 : Sl) (r1 r2 : List Rec) (w0 w : World) (hg : g < w.heap.size) (c0 : w.cell? ⟨g, 0, none⟩ = some (.slice s1.a s1.n s1.c)) (c1 : w.cell? ⟨g, 1, none⟩ = some (.slice s2.a s2.n s2.c)) (h1 : LRd w0 s1 r1) (h2 : LRd w0 s2 r2) (hb0 : Below w0.heap.size w0 w) (hn : s1.n ≤ 400000 ∧ s2.n ≤ 400000) :
    Calls Tryz.prog 76 #[.slice (some ⟨g, 0, none⟩) 2 2] w fun e w' => ∃ t : Sl, e = .returned (.slice t.a t.n t.c) ∧ Hid (t.n = s1.n + s2.n ∧ FarR w0 w w' t (r1 ++ r2) ∧ Below w.heap.size w w') := by
  obtain ⟨ps1, e1, l1, q1, p1, z1⟩ := lrd_parts h1
  obtain ⟨ps2, e2, l2, q2, p2, z2⟩ := lrd_parts h2
  have HL1 : Hid ((cellsR ps1).length = s1.n * 8) := (show _ = _ by rw [cellsR_len, l1])
  have HL2 : Hid ((cellsR ps2).length = s2.n * 8) := (show _ = _ by rw [cellsR_len, l2])
  have HC1 := Lib.hid (cellsR_oneE ps1)
  have HC2 := Lib.hid (cellsR_oneE ps2)
  have HQ1 := Lib.hid q1
  have HQ2 := Lib.hid q2
  have HZ1 := Lib.hid z1
  have HZ2 := Lib.hid z2
  have HP := Lib.hid (show (ps1 ++ ps2).map (·.2) = r1 ++ r2 ∧ (ps1 ++ ps2).length = s1.n + s2.n ∧ ∀ p ∈ ps1 ++ ps2, RRd w0 p.1 p.2 from ⟨by rw [List.map_append, e1, e2], by rw [List.length_append, l1, l2], fun p hp => (List.mem_append.1 hp).elim (p1 p) (p2 p)⟩)
  have HB0 := Lib.hid hb0
  obtain ⟨a, n, c⟩ := s1
  obtain ⟨b, m, d⟩ := s2
  simp only at *
  clear h1 h2 hb0 e1 l1 q1 p1 z1 e2 l2 q2 p2 z2
  go_enter Tryz.func76, Tryz.ntmps76
  go_wp2_with fail
  go_loopw [3, 11] (fun z x wr => ∃ k q : Nat, z = .int .i64 q ∧ x = .int .i64 k ∧ wr = w ∧ Hid ((k = 0 ∧ q = 0) ∨ (k = 1 ∧ q = n) ∨ (k = 2 ∧ q = n + m))) (fun _ x _ => 2 - (intOf x).toNat)
  case atStart => exact ⟨0, 0, rfl, rfl, rfl, .inl ⟨rfl, rfl⟩⟩
  case round =>
    obtain ⟨k, q, rfl, rfl, rfl, HK⟩ := hrel
    rcases HK.out with ⟨rfl, rfl⟩ | ⟨rfl, rfl⟩ | ⟨rfl, rfl⟩
    · clear HK
      have hq : ¬ (n : Int) < 0 := by omega
      go_wp2
      exact ⟨⟨1, n, by go_num, rfl, trivial, .inr (.inl ⟨rfl, rfl⟩)⟩, by simp [intOf]⟩
    · clear HK
      have hq : ¬ ((q : Int) + (m : Int)) < 0 := by omega
      go_wp2
      exact ⟨⟨2, q + m, by go_num, rfl, trivial, .inr (.inr ⟨rfl, rfl⟩)⟩, by simp [intOf]⟩
    · clear HK
      go_wp2_with fail
      refine (grow104 (n + m) wr (by omega)).mono ?_
      rintro e w1 ⟨va, vc, rfl, H1⟩
      have c0' := (H1.out.2.cell (p := ⟨g, 0, none⟩) hg).trans c0
      have c1' := (H1.out.2.cell (p := ⟨g, 1, none⟩) hg).trans c1
      obtain ⟨wz, hwz⟩ : ∃ x, x = wr := ⟨_, rfl⟩
      subst hwz
      have HC : Hid (w1.cell? ⟨g, 0, none⟩ = some (.slice a n c) ∧ w1.cell? ⟨g, 1, none⟩ = some (.slice b m d) ∧ g < w1.heap.size) := ⟨c0', c1', Nat.lt_of_lt_of_le hg H1.out.2.size⟩
      clear c0 c1 c0' c1'
      go_wp2_with fail
      go_loopw [6, 27] (fun v x wr => ∃ (k : Nat) (av : Option Addr) (nk cv : Nat), v = .slice av nk cv ∧ x = .int .i64 k ∧ Hid ((k = 0 ∧ nk = 0 ∧ wr.ownsRow wz.heap.size 62 8 (.slice av nk cv) nk []) ∨ (k = 1 ∧ nk = n ∧ wr.ownsRow wz.heap.size 62 8 (.slice av nk cv) nk (cellsR ps1)) ∨ (k = 2 ∧ nk = n + m ∧ wr.ownsRow wz.heap.size 62 8 (.slice av nk cv) nk (cellsR ps1 ++ cellsR ps2))) ∧ Hid (Below wz.heap.size wz wr ∧ wr.cell? ⟨g, 0, none⟩ = some (.slice a n c) ∧ wr.cell? ⟨g, 1, none⟩ = some (.slice b m d))) (fun _ x _ => 2 - (intOf x).toNat)
      case atStart => exact ⟨0, va, 0, vc, rfl, rfl, .inl ⟨rfl, rfl, H1.out.1⟩, H1.out.2, HC.out.1, HC.out.2.1⟩
      case round =>
        clear H1 HC
        obtain ⟨k, av, nk, cv, rfl, rfl, HK, HB⟩ := hrel
        have c0 := HB.out.2.1
        have c1 := HB.out.2.2
        have hgw : g < wr.heap.size := Nat.lt_of_lt_of_le hg HB.out.1.size
        rcases HK.out with ⟨rfl, rfl, ho⟩ | ⟨rfl, rfl, ho⟩ | ⟨rfl, rfl, ho⟩
        · have HO := Lib.hid ho
          have HCC : Hid (wr.cell? ⟨g, 0, none⟩ = some (.slice a n c) ∧ wr.cell? ⟨g, 1, none⟩ = some (.slice b m d)) := ⟨c0, c1⟩
          have HBB : Hid (Below w0.heap.size w0 wr) := HB0.out.trans (HB.out.1.mono HB0.out.size)
          clear HK ho c1
          go_wp2_with (at_builtin; refine wpList_appR rfl _ _ rfl wz.heap.size av 0 cv [] rfl HO.out a n c (cellsR ps1) rfl HL1.out (HQ1.out _ HBB.out) HZ1.out HC1.out (by omega) HB.out.1.size n (Nat.zero_add n) ?_; intro a' c' w' hO' hG')
          have hne : ∀ j, (Value.slice av 0 cv).ownBlock = some j → wz.heap.size ≤ j := fun j e => (HO.out.lt j e).1
          refine ⟨⟨1, a', n, c', rfl, by go_num, .inr (.inl ⟨rfl, rfl, by simpa using hO'.out⟩), HB.out.1.grown hG'.out HB.out.1.size hne, ?_, ?_⟩, by simp [intOf]⟩
          · exact (World.cell?_of_block (hG'.out.block g hgw (fun e => by have := hne g e.symm; omega))).trans HCC.out.1
          · exact (World.cell?_of_block (hG'.out.block g hgw (fun e => by have := hne g e.symm; omega))).trans HCC.out.2
        · have HO := Lib.hid ho
          have HCC : Hid (wr.cell? ⟨g, 0, none⟩ = some (.slice a nk c) ∧ wr.cell? ⟨g, 1, none⟩ = some (.slice b m d)) := ⟨c0, c1⟩
          have HBB : Hid (Below w0.heap.size w0 wr) := HB0.out.trans (HB.out.1.mono HB0.out.size)
          clear HK ho c0
          go_wp2_with (at_builtin; refine wpList_appR rfl _ _ rfl wz.heap.size av nk cv (cellsR ps1) rfl HO.out b m d (cellsR ps2) rfl HL2.out (HQ2.out _ HBB.out) HZ2.out HC2.out (by omega) HB.out.1.size (nk + m) rfl ?_; intro a' c' w' hO' hG')
          have hne : ∀ j, (Value.slice av nk cv).ownBlock = some j → wz.heap.size ≤ j := fun j e => (HO.out.lt j e).1
          refine ⟨⟨2, a', nk + m, c', rfl, by go_num, .inr (.inr ⟨rfl, rfl, hO'.out⟩), HB.out.1.grown hG'.out HB.out.1.size hne, ?_, ?_⟩, by simp [intOf]⟩
          · exact (World.cell?_of_block (hG'.out.block g hgw (fun e => by have := hne g e.symm; omega))).trans HCC.out.1
          · exact (World.cell?_of_block (hG'.out.block g hgw (fun e => by have := hne g e.symm; omega))).trans HCC.out.2
        · have HF : Hid (FarR w0 wz wr ⟨av, n + m, cv⟩ (r1 ++ r2) ∧ Below wz.heap.size wz wr) := by
            refine ⟨fun W hW hs hj => ?_, HB.out.1⟩
            rw [← HP.out.1]
            rw [← cellsR_app] at ho
            have hlt := ho.lt
            exact row_lrd (row_same ho fun g hg => hj g (hlt g hg).1 (hlt g hg).2) HP.out.2.1 (fun p hp => (HP.out.2.2 p hp).below hW)
          clear HK ho c0 c1
          go_wp2
          go_ret
          exact ⟨⟨av, n + m, cv⟩, rfl, rfl, HF.out⟩
end Go.Proofs.YtkjnbgekaifdfaaGreat
namespace Go.Proofs.YtkjnbgekaifdfaaGreat
open Go.ChangeShapes Go.WideShapes Go.ChangeAt Go.RowKit
set_option linter.unusedVariables false
set_option linter.unusedSimpArgs false
theorem LRd.drop {w : World} {b o n c p : Nat} {rs : List Rec} (h : LRd w ⟨some ⟨b, o, none⟩, n, c⟩ rs) (hp : p ≤ n) : LRd w ⟨some ⟨b, o + p * 8, none⟩, n - p, c - p⟩ (rs.drop p) := by
  have hl := h.len
  have hc := h.cap
  simp only at hl hc
  refine ⟨?_, by simp [hl], ⟨by simp only; omega, by simp only; omega⟩, by simp⟩
  rcases h.rd with e | ⟨b', o', e, h2, h3⟩
  · left; rw [e]; simp
  · right
    injection e with e
    injection e with e1 e2
    subst e1; subst e2
    refine ⟨b, o + p * 8, rfl, h2, fun i hi => ?_⟩
    have hi' : p + i < rs.length := by simp at hi; omega
    obtain ⟨x, x1, x2⟩ := h3 (p + i) hi'
    refine ⟨x, fun j hj => ?_, ?_⟩
    · have := x1 j hj
      rw [show o + (p + i) * 8 + j = o + p * 8 + i * 8 + j by omega] at this
      simpa using this
    · simpa using x2
theorem LRd.none0 {w : World} {a : Option Addr} {c : Nat} (hc : c ≤ 9223372036854775807) (hn : a = none → c = 0) : LRd w ⟨a, 0, c⟩ [] := ⟨.inl rfl, rfl, ⟨Nat.zero_le _, hc⟩, hn⟩
set_option maxRecDepth 100000 in
set_option maxHeartbeats 1000000 in
theorem saying75 (s : Sl) (rs : List Rec) (w : World) (h : LRd w s rs) : Calls Tryz.prog 75 #[(.slice s.a s.n s.c)] w (IxP isO rs w) := by
  have K := Lib.hid (index94_103 isO asks103 s rs w h)
  clear h
  obtain ⟨sa, n, sc⟩ := s
  simp only at *
  go_enter Tryz.func75, Tryz.ntmps75
  go_wp2_with fail
  refine K.out.mono ?_
  rintro e w1 (⟨k, hk, h1, h2, rfl, H1⟩ | ⟨h2, rfl, H1⟩)
  · have HE := Lib.hid (ixp_yes hk h1 h2 H1.out)
    clear h1 h2 H1 hk
    go_wp2
    go_ret
    exact HE.out
  · have HE := Lib.hid (ixp_no h2 H1.out)
    clear h2 H1
    go_wp2
    go_ret
    exact HE.out
set_option maxRecDepth 100000 in
set_option maxHeartbeats 4000000 in
theorem wsaying47 (s : Sl) (rs : List Rec) (w : World) (h : LRd w s rs) (hn : s.n ≤ 400000) : Calls Tryz.prog 47 #[(.slice s.a s.n s.c)] w fun e w' => ∃ t : Sl, e = .returned (.slice t.a t.n t.c) ∧ Hid (LRd w' t (othersF rs) ∧ Below w.heap.size w w') := by
  have K := Lib.hid (saying75 s rs w h)
  have HR := Lib.hid h
  have hl := h.len
  have hcap := h.cap
  clear h
  obtain ⟨sa, n, sc⟩ := s
  simp only at *
  go_enter Tryz.func47, Tryz.ntmps47
  go_wp2_with fail
  refine K.out.mono ?_
  rintro e w1 (⟨k, hk, h1, h2, rfl, H1⟩ | ⟨h2, rfl, H1⟩)
  · obtain ⟨b, o, rfl⟩ : ∃ b o, sa = some ⟨b, o, none⟩ := by
      rcases HR.out.rd with e | ⟨b, o, e, _⟩
      · rw [e] at hk; simp at hk
      · exact ⟨b, o, e⟩
    have HO : Hid (othersF rs = rs.take k ++ rs.drop (k + 1)) := others_at hk h1 h2
    have hkn : k < n := by omega
    have HB1 := Lib.hid H1.out
    have K76 : Hid (∀ W g ad, Below w.heap.size w W → g < W.heap.size → W.cell? ⟨g, 0, none⟩ = some (.slice (some ⟨b, o, none⟩) k sc) → W.cell? ⟨g, 1, none⟩ = some (.slice ad (n - (k + 1)) (sc - (k + 1))) → (ad = some ⟨b, o + (k + 1) * 8, none⟩ ∨ (sc = k + 1 ∧ ∃ z, ad = some z)) → Calls Tryz.prog 76 #[.slice (some ⟨g, 0, none⟩) 2 2] W fun e w' => ∃ t : Sl, e = .returned (.slice t.a t.n t.c) ∧ Hid (LRd w' t (rs.take k ++ rs.drop (k + 1)) ∧ Below W.heap.size W w')) := by
      intro W g ad hW hg c0 c1 had
      have t1 : LRd w ⟨some ⟨b, o, none⟩, k, sc⟩ (rs.take k) := HR.out.take k k (by simp only; omega)
      have t2 : LRd w ⟨ad, n - (k + 1), sc - (k + 1)⟩ (rs.drop (k + 1)) := by
        rcases had with rfl | ⟨e1, z, rfl⟩
        · exact HR.out.drop (by omega)
        · have e2 : rs.drop (k + 1) = [] := List.drop_eq_nil_of_le (by omega)
          rw [e2, show n - (k + 1) = 0 by omega]
          exact LRd.none0 (by omega) (fun e => by cases e)
      refine (concat76 g _ _ _ _ w W hg c0 c1 t1 t2 hW ⟨by simp only; omega, by simp only; omega⟩).mono ?_
      rintro e w2 ⟨t, rfl, H2⟩
      exact ⟨t, rfl, H2.out.2.1.get (hW.trans (H2.out.2.2.mono hW.size)), H2.out.2.2⟩
    obtain ⟨q, hq⟩ : ∃ q, q = k + 1 := ⟨_, rfl⟩
    rw [← hq] at K76 HO
    have hwr : IntKind.i64.wrap ((k : Int) + 1) = (q : Int) := by rw [IntKind.wrap_i64]; omega
    have hk0 : ¬ (k : Int) < 0 := by omega
    have hkc : (k : Int) ≤ (sc : Int) := by omega
    have hq0 : (0 : Int) ≤ (q : Int) := by omega
    have hq2 : (q : Int) ≤ (n : Int) := by omega
    have HB2 : Hid (∀ u v, Below w.heap.size w (w1.alloc (.cells #[u, v] 24)).drew ∧ (w1.alloc (.cells #[u, v] 24)).drew.heap[w1.heap.size]? = some (.cells #[u, v] 24)) := fun u v => ⟨(HB1.out.alloc HB1.out.size _).drew, heap_alloc_new w1 _⟩
    clear h1 h2 H1 K HR hq hk
    by_cases hsc : sc = q
    · subst hsc
      have en : n - sc = 0 := by omega
      have K76' := K76.out
      rw [en, Nat.sub_self] at K76'
      have K76 := Lib.hid K76'
      clear K76' en
      have HK := Lib.hid (K76.out ((w1.alloc (.cells #[.slice (some ⟨b, o, none⟩) k sc, .slice (some ⟨b, o, none⟩) 0 0] 24)).drew) w1.heap.size (some ⟨b, o, none⟩) (HB2.out _ _).1 (box_lt (HB2.out _ _).2) (box_cell (HB2.out _ _).2 0 _ rfl) (box_cell (HB2.out _ _).2 1 _ rfl) (.inr ⟨rfl, _, rfl⟩))
      go_wp2_with fail
      go_region_law (first
        | (go_simp; go_at_call 76; refine HK.out.mono ?_; rintro e w2 ⟨⟨ta, tn, tc⟩, rfl, H2⟩)
        | fail)
      all_goals
        have HE : Hid (LRd w2 ⟨ta, tn, tc⟩ (othersF rs) ∧ Below w.heap.size w w2) := ⟨by rw [HO.out]; exact H2.out.1, (HB2.out _ _).1.trans (H2.out.2.mono (HB2.out _ _).1.size)⟩
        go_wp2
        go_ret
        exact ⟨⟨ta, tn, tc⟩, rfl, HE.out⟩
    · have HK := Lib.hid (K76.out ((w1.alloc (.cells #[.slice (some ⟨b, o, none⟩) k sc, .slice (some ⟨b, o + q * 8, none⟩) (n - q) (sc - q)] 24)).drew) w1.heap.size (some ⟨b, o + q * 8, none⟩) (HB2.out _ _).1 (box_lt (HB2.out _ _).2) (box_cell (HB2.out _ _).2 0 _ rfl) (box_cell (HB2.out _ _).2 1 _ rfl) (.inl rfl))
      go_wp2_with fail
      go_region_law (first
        | (go_simp; go_at_call 76; refine HK.out.mono ?_; rintro e w2 ⟨⟨ta, tn, tc⟩, rfl, H2⟩)
        | fail)
      all_goals
        have HE : Hid (LRd w2 ⟨ta, tn, tc⟩ (othersF rs) ∧ Below w.heap.size w w2) := ⟨by rw [HO.out]; exact H2.out.1, (HB2.out _ _).1.trans (H2.out.2.mono (HB2.out _ _).1.size)⟩
        go_wp2
        go_ret
        exact ⟨⟨ta, tn, tc⟩, rfl, HE.out⟩
  · have hE : othersF rs = rs := others_none h2
    have HE : Hid (LRd w1 ⟨sa, n, sc⟩ (othersF rs) ∧ Below w.heap.size w w1) := ⟨by rw [hE]; exact HR.out.below H1.out, H1.out⟩
    clear h2 hE H1
    go_wp2
    go_ret
    exact ⟨⟨sa, n, sc⟩, rfl, HE.out⟩
end Go.Proofs.YtkjnbgekaifdfaaGreat
namespace Go.Proofs.YtkjnbgekaifdfaaGreat
open Go.ChangeShapes Go.WideShapes Go.ChangeAt Go.RowKit
set_option linter.unusedVariables false
set_option linter.unusedSimpArgs false
set_option maxRecDepth 100000 in
set_option maxHeartbeats 4000000 in
theorem beside67 (s : Sl) (rs : List Rec) (N : Nat) (w0 w : World) (h0 : LRd w0 s rs) (hb0 : Below w0.heap.size w0 w) (hn : s.n ≤ 400000) (hN : N ≤ (othersF rs).length) : Calls Tryz.prog 67 #[(.slice s.a s.n s.c), .int .i64 N] w fun e w' => ∃ t : Sl, e = .returned (.slice t.a t.n t.c) ∧ Hid (FarR w0 w w' t (besideF rs N) ∧ Below w.heap.size w w') := by
  have h := h0.below hb0
  have K := Lib.hid (saying75 s rs w h)
  have HR := Lib.hid h0
  have HB00 := Lib.hid hb0
  have hl := h.len
  have hcap := h.cap
  have hol := others_len rs
  clear h h0 hb0
  obtain ⟨sa, n, sc⟩ := s
  simp only at *
  have hNn : N ≤ n := by omega
  have hNc : (N : Int) ≤ (sc : Int) := by omega
  have hN0 : (0 : Int) ≤ (N : Int) := by omega
  go_enter Tryz.func67, Tryz.ntmps67
  go_wp2_with fail
  refine K.out.mono ?_
  rintro e w1 (⟨k, hk, h1, h2, rfl, H1⟩ | ⟨h2, rfl, H1⟩)
  · obtain ⟨b, o, rfl⟩ : ∃ b o, sa = some ⟨b, o, none⟩ := by
      rcases HR.out.rd with e | ⟨b, o, e, _⟩
      · rw [e] at hk; simp at hk
      · exact ⟨b, o, e⟩
    have hO : othersF rs = rs.take k ++ rs.drop (k + 1) := others_at hk h1 h2
    have hON : N + 1 ≤ n := by
      have := congrArg List.length hO
      simp at this
      omega
    have hB := beside_at N hk h1 h2
    have hkn : k < n := by omega
    have HB1 := Lib.hid H1.out
    have hk0 : ¬ (k : Int) < 0 := by omega
    have hk00 : (0 : Int) ≤ (k : Int) := by omega
    by_cases hkN : k ≤ N
    · rw [if_pos hkN] at hB
      have hkN' : (k : Int) ≤ (N : Int) := by omega
      have HE : Hid (FarR w0 w w1 ⟨some ⟨b, o, none⟩, N + 1, sc⟩ (besideF rs N) ∧ Below w.heap.size w w1) := by
        refine ⟨?_, HB1.out⟩
        rw [hB]
        exact FarR.old (HR.out.take (N + 1) (N + 1) (by simp only; omega))
      have hNc1 : (N : Int) + 1 ≤ (sc : Int) := by omega
      clear h1 h2 H1 K HR hk hO hB hol
      go_wp2
      go_ret
      exact ⟨⟨some ⟨b, o, none⟩, N + 1, sc⟩, rfl, HE.out⟩
    · rw [if_neg hkN] at hB
      have hkN' : (N : Int) < (k : Int) := by omega
      have hkN2 : ¬ (k : Int) ≤ (N : Int) := by omega
      obtain ⟨q, hq⟩ : ∃ q, q = k + 1 := ⟨_, rfl⟩
      have hwr : IntKind.i64.wrap ((k : Int) + 1) = (q : Int) := by rw [IntKind.wrap_i64]; omega
      have hq0 : (0 : Int) ≤ (q : Int) := by omega
      have hq2 : (q : Int) ≤ (sc : Int) := by omega
      have hq3 : (k : Int) ≤ (q : Int) := by omega
      have HB3 : Hid (∀ u v, Below w0.heap.size w0 (w1.alloc (.cells #[u, v] 24)).drew) := fun u v => (((HB00.out.trans (HB1.out.mono HB00.out.size)).alloc (Nat.le_trans HB00.out.size HB1.out.size) _).drew)
      have HB2 : Hid (∀ u v, Below w.heap.size w (w1.alloc (.cells #[u, v] 24)).drew ∧ (w1.alloc (.cells #[u, v] 24)).drew.heap[w1.heap.size]? = some (.cells #[u, v] 24)) := fun u v => ⟨(HB1.out.alloc HB1.out.size _).drew, heap_alloc_new w1 _⟩
      have t1 : LRd w0 ⟨some ⟨b, o, none⟩, N, sc⟩ (rs.take N) := HR.out.take N N (by simp only; omega)
      have t2 : LRd w0 ⟨some ⟨b, o + k * 8, none⟩, q - k, sc - k⟩ [rs[k]] := by
        have := (HR.out.drop (p := k) (by omega)).take 1 1 (by simp only; omega)
        rw [show q - k = 1 by omega]
        have e : List.take 1 (List.drop k rs) = [rs[k]] := by rw [List.drop_eq_getElem_cons hk]; rfl
        rw [e] at this
        exact this
      have HK := Lib.hid (concat76 w1.heap.size _ _ _ _ w0 ((w1.alloc (.cells #[.slice (some ⟨b, o, none⟩) N sc, .slice (some ⟨b, o + k * 8, none⟩) (q - k) (sc - k)] 24)).drew) (box_lt (HB2.out _ _).2) (box_cell (HB2.out _ _).2 0 _ rfl) (box_cell (HB2.out _ _).2 1 _ rfl) t1 t2 (HB3.out _ _) ⟨by simp only; omega, by simp only; omega⟩)
      have HBE : Hid (besideF rs N = rs.take N ++ [rs[k]]) := hB
      have hck : ¬ sc = k := by omega
      clear h1 h2 H1 K HR hO hB hol t1 t2 hq
      go_wp2_with fail
      go_region_law (first
        | (go_simp; go_at_call 76; refine HK.out.mono ?_; rintro e w2 ⟨⟨ta, tn, tc⟩, rfl, H2⟩)
        | fail)
      all_goals
        have HE : Hid (FarR w0 w w2 ⟨ta, tn, tc⟩ (besideF rs N) ∧ Below w.heap.size w w2) := ⟨by rw [HBE.out]; exact H2.out.2.1.low (HB2.out _ _).1.size, (HB2.out _ _).1.trans (H2.out.2.2.mono (HB2.out _ _).1.size)⟩
        go_wp2
        go_ret
        exact ⟨⟨ta, tn, tc⟩, rfl, HE.out⟩
  · have hE : besideF rs N = rs.take N := beside_none N h2
    have HE : Hid (FarR w0 w w1 ⟨sa, N, sc⟩ (besideF rs N) ∧ Below w.heap.size w w1) := ⟨by rw [hE]; exact FarR.old (HR.out.take N N (by simp only; omega)), H1.out⟩
    clear h2 hE H1
    go_wp2
    go_ret
    exact ⟨⟨sa, N, sc⟩, rfl, HE.out⟩
end Go.Proofs.YtkjnbgekaifdfaaGreat
namespace Go.Proofs.YtkjnbgekaifdfaaGreat
open Go.ChangeShapes Go.WideShapes Go.ChangeAt Go.RowKit
set_option linter.unusedVariables false
set_option linter.unusedSimpArgs false
theorem cells_set {cur cur' : Array Value} {ps : List (RA × Rec)} {n k : Nat} {y : RA} {r : Rec} (h : cur.toList.take (n * 8) = cellsR ps) (hn : ps.length = n) (hk : k < n) (hs : cur'.size = cur.size) (hc : n * 8 ≤ cur.size) (h2 : ∀ q, q < 8 → cur'[k * 8 + q]? = (recCells y r)[q]?) (h3 : ∀ j, j < k * 8 ∨ k * 8 + 8 ≤ j → cur'[j]? = cur[j]?) : cur'.toList.take (n * 8) = cellsR (ps.set k (y, r)) := by
  have hl : (cellsR (ps.set k (y, r))).length = n * 8 := by rw [cellsR_len]; simp [hn]
  refine List.ext_getElem? fun j => ?_
  by_cases hj : j < n * 8
  · rw [List.getElem?_take, if_pos hj, Array.getElem?_toList]
    have hi : j / 8 < n := by omega
    have e1 := cellsR_at (ps.set k (y, r)) (j / 8) (by simp [hn]; exact hi) (j % 8) (by omega)
    rw [show j / 8 * 8 + j % 8 = j by omega] at e1
    rw [e1]
    by_cases hik : j / 8 = k
    · have := h2 (j % 8) (by omega)
      rw [show k * 8 + j % 8 = j by omega] at this
      rw [this]
      simp [hik]
    · rw [h3 j (by omega)]
      have e2 := cellsR_at ps (j / 8) (by omega) (j % 8) (by omega)
      rw [show j / 8 * 8 + j % 8 = j by omega, ← h, List.getElem?_take, if_pos hj, Array.getElem?_toList] at e2
      rw [e2]
      simp [List.getElem_set, Ne.symm hik]
  · rw [List.getElem?_take, if_neg hj, List.getElem?_eq_none (by omega)]
theorem row_put {B g n c k : Nat} {w w' : World} {ps : List (RA × Rec)} {y : RA} {r : Rec} (h : w.ownsRow B 62 8 (.slice (some ⟨g, 0, none⟩) n c) n (cellsR ps)) (hn : ps.length = n) (hk : k < n) (hw : ∀ cur, w.heap[g]? = some (.cells cur 62) → k * 8 + 8 ≤ cur.size → (∀ q, q < 8 → q = 1 ∨ q = 2 ∨ q = 3 → cur[k * 8 + q]? = (recCells (ps[k]'(by omega)).1 (ps[k]'(by omega)).2)[q]?) → ∃ cur', w'.heap[g]? = some (.cells cur' 62) ∧ cur'.size = cur.size ∧ (∀ q, q < 8 → cur'[k * 8 + q]? = (recCells y r)[q]?) ∧ ∀ j, j < k * 8 ∨ k * 8 + 8 ≤ j → cur'[j]? = cur[j]?) : w'.ownsRow B 62 8 (.slice (some ⟨g, 0, none⟩) n c) n (cellsR (ps.set k (y, r))) := by
  refine ⟨by rw [cellsR_len]; simp [hn], ?_⟩
  rcases h.2 with ⟨e, _⟩ | ⟨g', cap, cur, e, hb, hg, k1, k2, k3, k4⟩
  · cases e
  · simp only [Value.slice.injEq, Option.some.injEq, Addr.mk.injEq, and_true, true_and] at e
    obtain ⟨rfl, rfl⟩ := e
    have hsz : n * 8 ≤ cur.size := by rw [k3]; exact Nat.mul_le_mul_right 8 k1
    have hold : ∀ q, q < 8 → cur[k * 8 + q]? = (recCells (ps[k]'(by omega)).1 (ps[k]'(by omega)).2)[q]? := fun q hq => by
      rw [← cellsR_at ps k (by omega) q hq, ← k4, List.getElem?_take, if_pos (by omega), Array.getElem?_toList]
    obtain ⟨cur', e1, e2, e3, e4⟩ := hw cur hg (by omega) (fun q hq _ => hold q hq)
    exact .inr ⟨g, c, cur', rfl, hb, e1, k1, k2, by rw [e2, k3], cells_set k4 hn hk e2 hsz e3 e4⟩
theorem row_put5 {B g n c k : Nat} {w : World} {ps : List (RA × Rec)} {y : RA} {r : Rec} (h : w.ownsRow B 62 8 (.slice (some ⟨g, 0, none⟩) n c) n (cellsR ps)) (hn : ps.length = n) (hk : k < n) (hr : (ps[k]'(by omega)).2 = r) : (((((w.setCell ⟨g, k * 8, none⟩ (.slice y.o.a y.o.n y.o.c)).setCell ⟨g, k * 8 + 4, none⟩ (.slice y.d.p1.a y.d.p1.n y.d.p1.c)).setCell ⟨g, k * 8 + 5, none⟩ (.slice y.d.p2.a y.d.p2.n y.d.p2.c)).setCell ⟨g, k * 8 + 6, none⟩ (.slice y.d.p3.a y.d.p3.n y.d.p3.c)).setCell ⟨g, k * 8 + 7, none⟩ (.slice y.d.p4.a y.d.p4.n y.d.p4.c)).ownsRow B 62 8 (.slice (some ⟨g, 0, none⟩) n c) n (cellsR (ps.set k (y, r))) := by
  refine row_put h hn hk fun cur hg hsz hold => ⟨_, heap_set (heap_set (heap_set (heap_set (heap_set hg _ _) _ _) _ _) _ _) _ _, by simp, fun q hq => ?_, fun j hj => ?_⟩
  · have hq' : q = 0 ∨ q = 1 ∨ q = 2 ∨ q = 3 ∨ q = 4 ∨ q = 5 ∨ q = 6 ∨ q = 7 := by omega
    have e1 := hold 1 (by omega) (by omega)
    have e2 := hold 2 (by omega) (by omega)
    have e3 := hold 3 (by omega) (by omega)
    rw [hr] at e1 e2 e3
    simp only [recCells, List.getElem?_cons_zero, List.getElem?_cons_succ] at e1 e2 e3
    rcases hq' with rfl | rfl | rfl | rfl | rfl | rfl | rfl | rfl <;> simp [Array.getElem?_setIfInBounds, recCells] <;> first | omega | (intros; first | omega | assumption) | skip
    all_goals first | (rw [if_pos (by omega)]) | (rw [if_neg (by omega)]; assumption) | skip
  · simp only [Array.getElem?_setIfInBounds]
    rw [if_neg (by omega), if_neg (by omega), if_neg (by omega), if_neg (by omega), if_neg (by omega)]
theorem other5 (w : World) (g p0 p1 p2 p3 p4 : Nat) (a0 a1 a2 a3 a4 : Value) (j : Nat) (h : j ≠ g) : (((((w.setCell ⟨g, p0, none⟩ a0).setCell ⟨g, p1, none⟩ a1).setCell ⟨g, p2, none⟩ a2).setCell ⟨g, p3, none⟩ a3).setCell ⟨g, p4, none⟩ a4).heap[j]? = w.heap[j]? := by
  rw [Below.heap_setCell _ _ _ _ h, Below.heap_setCell _ _ _ _ h, Below.heap_setCell _ _ _ _ h, Below.heap_setCell _ _ _ _ h, Below.heap_setCell _ _ _ _ h]
theorem size5 (w : World) (g p0 p1 p2 p3 p4 : Nat) (a0 a1 a2 a3 a4 : Value) : (((((w.setCell ⟨g, p0, none⟩ a0).setCell ⟨g, p1, none⟩ a1).setCell ⟨g, p2, none⟩ a2).setCell ⟨g, p3, none⟩ a3).setCell ⟨g, p4, none⟩ a4).heap.size = w.heap.size := by
  simp [World.setCell]
theorem below5 {B : Nat} {V w : World} (h : Below B V w) (g p0 p1 p2 p3 p4 : Nat) (a0 a1 a2 a3 a4 : Value) (hg : B ≤ g) : Below B V (((((w.setCell ⟨g, p0, none⟩ a0).setCell ⟨g, p1, none⟩ a1).setCell ⟨g, p2, none⟩ a2).setCell ⟨g, p3, none⟩ a3).setCell ⟨g, p4, none⟩ a4) :=
  ((((h.setCell (p := ⟨g, p0, none⟩) hg a0).setCell (p := ⟨g, p1, none⟩) hg a1).setCell (p := ⟨g, p2, none⟩) hg a2).setCell (p := ⟨g, p3, none⟩) hg a3).setCell (p := ⟨g, p4, none⟩) hg a4
/-- Where a row's element lies. -/
theorem rowr_at {B g n c k : Nat} {w : World} {ps : List (RA × Rec)} (h : w.ownsRow B 62 8 (.slice (some ⟨g, 0, none⟩) n c) n (cellsR ps)) (hn : ps.length = n) (hk : k < n) : ∀ j, j < 8 → w.cell? ⟨g, k * 8 + j, none⟩ = (recCells (ps[k]'(by omega)).1 (ps[k]'(by omega)).2)[j]? := by
  intro j hj
  have ad : ∀ j, (⟨g, 0, none⟩ : Addr).add j = ⟨g, 0 + j, none⟩ := fun j => by unfold Addr.add; split <;> simp_all
  have e2 := cellsR_at ps k (by omega) j hj
  have hlt : j < (recCells (ps[k]'(by omega)).1 (ps[k]'(by omega)).2).length := hj
  rw [List.getElem?_eq_getElem hlt] at e2 ⊢
  have := h.cells (g := g) rfl _ _ e2
  rw [ad, Nat.zero_add] at this
  exact this
theorem row_frozen {B g n c : Nat} {e : TypeId} {z : Nat} {w : World} {xs : List Value} (h : w.ownsRow B e z (.slice (some ⟨g, 0, none⟩) n c) n xs) (j : Nat) : w.frozen? ⟨g, j, none⟩ = false := by
  rcases h.2 with ⟨e, _⟩ | ⟨g', cap, cur, e, hb, hg, _⟩
  · cases e
  · simp only [Value.slice.injEq, Option.some.injEq, Addr.mk.injEq, and_true, true_and] at e
    obtain ⟨rfl, rfl⟩ := e
    exact box_frozen hg j
theorem row_lt {B g n c : Nat} {e : TypeId} {z : Nat} {w : World} {xs : List Value} (h : w.ownsRow B e z (.slice (some ⟨g, 0, none⟩) n c) n xs) : B ≤ g ∧ g < w.heap.size ∧ n ≤ c ∧ c ≤ 9223372036854775807 := by
  rcases h.2 with ⟨e, _⟩ | ⟨g', cap, cur, e, hb, hg, k1, k2, _⟩
  · cases e
  · simp only [Value.slice.injEq, Option.some.injEq, Addr.mk.injEq, and_true, true_and] at e
    obtain ⟨rfl, rfl⟩ := e
    exact ⟨hb, box_lt hg, k1, by simpa only [maxLen] using k2⟩
/-- A row's shape. -/
theorem rowr_shape {B n c : Nat} {e : TypeId} {z : Nat} {w : World} {a : Option Addr} {xs : List Value} (h : w.ownsRow B e z (.slice a n c) n xs) (hn : 0 < n) : ∃ g, a = some ⟨g, 0, none⟩ := by
  rcases h.2 with ⟨_, h0⟩ | ⟨g', cap, cur, e, _⟩
  · omega
  · simp only [Value.slice.injEq] at e
    exact ⟨g', e.1⟩
theorem cellsq_set {cur cur' : Array Value} {ps : List (Sl × Qn)} {n k : Nat} {y : Sl} {r : Qn} (h : cur.toList.take (n * 3) = cellsQ ps) (hn : ps.length = n) (hk : k < n) (hs : cur'.size = cur.size) (hc : n * 3 ≤ cur.size) (h2 : ∀ q, q < 3 → cur'[k * 3 + q]? = (qCells y r)[q]?) (h3 : ∀ j, j < k * 3 ∨ k * 3 + 3 ≤ j → cur'[j]? = cur[j]?) : cur'.toList.take (n * 3) = cellsQ (ps.set k (y, r)) := by
  have hl : (cellsQ (ps.set k (y, r))).length = n * 3 := by rw [cellsQ_len]; simp [hn]
  refine List.ext_getElem? fun j => ?_
  by_cases hj : j < n * 3
  · rw [List.getElem?_take, if_pos hj, Array.getElem?_toList]
    have hi : j / 3 < n := by omega
    have e1 := cellsQ_at (ps.set k (y, r)) (j / 3) (by simp [hn]; exact hi) (j % 3) (by omega)
    rw [show j / 3 * 3 + j % 3 = j by omega] at e1
    rw [e1]
    by_cases hik : j / 3 = k
    · have := h2 (j % 3) (by omega)
      rw [show k * 3 + j % 3 = j by omega] at this
      rw [this]
      simp [hik]
    · rw [h3 j (by omega)]
      have e2 := cellsQ_at ps (j / 3) (by omega) (j % 3) (by omega)
      rw [show j / 3 * 3 + j % 3 = j by omega, ← h, List.getElem?_take, if_pos hj, Array.getElem?_toList] at e2
      rw [e2]
      simp [List.getElem_set, Ne.symm hik]
  · rw [List.getElem?_take, if_neg hj, List.getElem?_eq_none (by omega)]
theorem row_put1 {B g n c k : Nat} {w : World} {ps : List (Sl × Qn)} {y : Sl} {r : Qn} (h : w.ownsRow B 55 3 (.slice (some ⟨g, 0, none⟩) n c) n (cellsQ ps)) (hn : ps.length = n) (hk : k < n) (hr : (ps[k]'(by omega)).2 = r) : (w.setCell ⟨g, k * 3, none⟩ (.slice y.a y.n y.c)).ownsRow B 55 3 (.slice (some ⟨g, 0, none⟩) n c) n (cellsQ (ps.set k (y, r))) := by
  refine ⟨by rw [cellsQ_len]; simp [hn], ?_⟩
  rcases h.2 with ⟨e, _⟩ | ⟨g', cap, cur, e, hb, hg, k1, k2, k3, k4⟩
  · cases e
  · simp only [Value.slice.injEq, Option.some.injEq, Addr.mk.injEq, and_true, true_and] at e
    obtain ⟨rfl, rfl⟩ := e
    have hsz : n * 3 ≤ cur.size := by rw [k3]; exact Nat.mul_le_mul_right 3 k1
    have hold : ∀ q, q < 3 → cur[k * 3 + q]? = (qCells (ps[k]'(by omega)).1 (ps[k]'(by omega)).2)[q]? := fun q hq => by
      rw [← cellsQ_at ps k (by omega) q hq, ← k4, List.getElem?_take, if_pos (by omega), Array.getElem?_toList]
    refine .inr ⟨g, c, _, rfl, hb, heap_set hg _ _, k1, k2, by simp [k3], cellsq_set k4 hn hk (by simp) hsz (fun q hq => ?_) (fun j hj => ?_)⟩
    · have e1 := hold 1 (by omega)
      have e2 := hold 2 (by omega)
      rw [hr] at e1 e2
      simp only [qCells, List.getElem?_cons_zero, List.getElem?_cons_succ] at e1 e2
      have hq' : q = 0 ∨ q = 1 ∨ q = 2 := by omega
      rcases hq' with rfl | rfl | rfl
      · simp [Array.getElem?_setIfInBounds, qCells]; omega
      · rw [Array.getElem?_setIfInBounds, if_neg (by omega), e1]; rfl
      · rw [Array.getElem?_setIfInBounds, if_neg (by omega), e2]; rfl
    · rw [Array.getElem?_setIfInBounds, if_neg (by omega)]
theorem rowq_at {B g n c k : Nat} {w : World} {ps : List (Sl × Qn)} (h : w.ownsRow B 55 3 (.slice (some ⟨g, 0, none⟩) n c) n (cellsQ ps)) (hn : ps.length = n) (hk : k < n) : ∀ j, j < 3 → w.cell? ⟨g, k * 3 + j, none⟩ = (qCells (ps[k]'(by omega)).1 (ps[k]'(by omega)).2)[j]? := by
  intro j hj
  have ad : ∀ j, (⟨g, 0, none⟩ : Addr).add j = ⟨g, 0 + j, none⟩ := fun j => by unfold Addr.add; split <;> simp_all
  have e2 := cellsQ_at ps k (by omega) j hj
  have hlt : j < (qCells (ps[k]'(by omega)).1 (ps[k]'(by omega)).2).length := hj
  rw [List.getElem?_eq_getElem hlt] at e2 ⊢
  have := h.cells (g := g) rfl _ _ e2
  rw [ad, Nat.zero_add] at this
  exact this
/-- What stays as long as blocks from one on stay, up toq the world's end. -/
theorem Stb.up {B S S' : Nat} {P : World → Prop} {w w' : World} (h : Stb B S P w) (hS : S ≤ S') (hs : S' ≤ w'.heap.size) (hb : ∀ j, B ≤ j → j < S → w'.heap[j]? = w.heap[j]?) : Stb B S' P w' :=
  ⟨hs, fun w2 h1 h2 => h.2 w2 (Nat.le_trans hS h1) fun j j1 j2 => (h2 j j1 (by omega)).trans (hb j j1 j2)⟩
theorem Stb.recs {B : Nat} {w : World} {x : RA} {r : Rec} (h : ROwx B w x r) : Stb B w.heap.size (fun W => RRd W x r) w :=
  ⟨Nat.le_refl _, fun w' hs hb => ⟨(h.1.keep (fun j h1 h2 _ => hb j h1 h2)).rd, (h.2.keep hb).rd⟩⟩
theorem Stb.qns {B : Nat} {w : World} {x : Sl} {r : Qn} (h : QOwx B w x r) : Stb B w.heap.size (fun W => QRd W x r) w :=
  ⟨Nat.le_refl _, fun w' hs hb => (Owx1.keep h (fun j h1 h2 _ => hb j h1 h2)).rd⟩
end Go.Proofs.YtkjnbgekaifdfaaGreat
namespace Go.Proofs.YtkjnbgekaifdfaaGreat
open Go.ChangeShapes Go.WideShapes Go.ChangeAt Go.RowKit
set_option linter.unusedVariables false
set_option linter.unusedSimpArgs false
def putJ (x : MA) (j : Nat) (t : Sl) : MA := if j = 0 then ⟨x.q, t, x.l2, x.l3⟩ else if j = 1 then ⟨x.q, x.l1, t, x.l3⟩ else ⟨x.q, x.l1, x.l2, t⟩
theorem putJ_step (H : Hd) (x : MA) (j : Nat) (t : Sl) (hj : j < 3) : (#[.int .u16 H.id, .bool H.rs, .int .i64 H.op, .bool H.aa, .bool H.tc, .bool H.rd, .bool H.ra, .bool H.ad, .bool H.cd, .int .i64 H.rc, .slice x.q.a x.q.n x.q.c, .slice x.l1.a x.l1.n x.l1.c, .slice x.l2.a x.l2.n x.l2.c, .slice x.l3.a x.l3.n x.l3.c] : Array Value).setIfInBounds (11 + j) (.slice t.a t.n t.c) = #[.int .u16 H.id, .bool H.rs, .int .i64 H.op, .bool H.aa, .bool H.tc, .bool H.rd, .bool H.ra, .bool H.ad, .bool H.cd, .int .i64 H.rc, .slice (putJ x j t).q.a (putJ x j t).q.n (putJ x j t).q.c, .slice (putJ x j t).l1.a (putJ x j t).l1.n (putJ x j t).l1.c, .slice (putJ x j t).l2.a (putJ x j t).l2.n (putJ x j t).l2.c, .slice (putJ x j t).l3.a (putJ x j t).l3.n (putJ x j t).l3.c] := by
  have : j = 0 ∨ j = 1 ∨ j = 2 := by omega
  rcases this with rfl | rfl | rfl <;> rfl
theorem putJ_same (x : MA) (j : Nat) (t : Sl) (hj : j < 3) : nth3 (putJ x j t) j = t := by
  have : j = 0 ∨ j = 1 ∨ j = 2 := by omega
  rcases this with rfl | rfl | rfl <;> rfl
theorem putJ_other (x : MA) (i j : Nat) (t : Sl) (hi : i < 3) (hj : j < 3) (h : i ≠ j) : nth3 (putJ x j t) i = nth3 x i := by
  have : j = 0 ∨ j = 1 ∨ j = 2 := by omega
  have : i = 0 ∨ i = 1 ∨ i = 2 := by omega
  rcases ‹j = 0 ∨ j = 1 ∨ j = 2› with rfl | rfl | rfl <;> rcases ‹i = 0 ∨ i = 1 ∨ i = 2› with rfl | rfl | rfl <;> first | rfl | omega
theorem putJ_q (x : MA) (j : Nat) (t : Sl) : (putJ x j t).q = x.q := by unfold putJ; split <;> (try split) <;> rfl
theorem le_sumN : ∀ (l : List Nat) (x : Nat), x ∈ l → x ≤ l.sum
  | y :: l, x, h => by
    rcases List.mem_cons.1 h with rfl | h
    · simp
    · have := le_sumN l x h; simp; omega
theorem len_sumN : ∀ (l : List ByteArray), l.length ≤ (l.map tz).sum
  | [] => by simp
  | y :: l => by have := len_sumN l; simp [tz]; omega
theorem Bd.wb {d : Dat} (h : Bd d) : Wb d := by
  have ht := h.t
  unfold tsum at ht
  exact ⟨by have := h.n; omega, fun x hx => by have := h.nl x hx; omega, by have := h.u; omega, by have := len_sumN d.ts; omega, fun x hx => by have := le_sumN _ _ (List.mem_map_of_mem (f := tz) hx); have e : tz x = 1 + x.size := rfl; omega, by have := h.r; omega⟩
theorem ncopy64 (s : Sl) (ss : List ByteArray) (w : World) (h : TRd w s ss) (hn : s.n ≤ 1000000) : Calls Tryz.prog 64 #[(.slice s.a s.n s.c)] w fun e w' => ∃ y : Sl, e = .returned (.slice y.a y.n y.c) ∧ Hid (Owx1 w.heap.size w' y ss ∧ Below w.heap.size w w') := by
  refine (pcopy_eq s.a s.c s.n ss 9223372036854775807 w h.rd h.len h.z63 (by omega)).mono ?_
  rintro e w1 ⟨v, ys, rfl, H⟩
  obtain ⟨a, rfl, _⟩ := H.out.1.shape
  exact ⟨⟨a, ss.length, ys.length⟩, rfl, ⟨ys, H.out.1, H.out.2.1⟩, H.out.2.2⟩
/-- A list that was copied: its row, and its elements. -/
def RowC (B S : Nat) (s : Sl) (rs : List Rec) (w : World) : Prop := ∃ ps : List (RA × Rec), ps.map (·.2) = rs ∧ ps.length = s.n ∧ w.ownsRow B 62 8 (.slice s.a s.n s.c) s.n (cellsR ps) ∧ B ≤ S ∧ (∀ g, (Value.slice s.a s.n s.c).ownBlock = some g → g < S) ∧ Stb S w.heap.size (fun W => ∀ p ∈ ps, RRd W p.1 p.2) w
theorem RowC.lrd {B S : Nat} {s : Sl} {rs : List Rec} {w : World} (h : RowC B S s rs w) : LRd w s rs := by
  obtain ⟨ps, h1, h2, h3, _, h4, h5⟩ := h
  rw [← h1]
  exact row_lrd h3 h2 h5.get
theorem RowC.stb {B S : Nat} {s : Sl} {rs : List Rec} {w : World} (h : RowC B S s rs w) : Stb B w.heap.size (fun W => LRd W s rs) w := by
  obtain ⟨ps, h1, h2, h3, hBS, h4, h5⟩ := h
  refine ⟨Nat.le_refl _, fun w' hs hb => ?_⟩
  rw [← h1]
  have hl : ∀ g, (Value.slice s.a s.n s.c).ownBlock = some g → B ≤ g ∧ g < w.heap.size := fun g hg => h3.lt g hg
  exact row_lrd (row_same h3 fun g hg => hb g (hl g hg).1 (hl g hg).2) h2 (h5.2 w' hs fun j j1 j2 => hb j (by omega) j2)
theorem RowC.go {B S : Nat} {s : Sl} {rs : List Rec} {w w' : World} (h : RowC B S s rs w) (hs : w.heap.size ≤ w'.heap.size) (hb : ∀ j, B ≤ j → j < w.heap.size → w'.heap[j]? = w.heap[j]?) : RowC B S s rs w' := by
  obtain ⟨ps, h1, h2, h3, hBS, h4, h5⟩ := h
  have hl : ∀ g, (Value.slice s.a s.n s.c).ownBlock = some g → B ≤ g ∧ g < w.heap.size := fun g hg => h3.lt g hg
  exact ⟨ps, h1, h2, row_same h3 fun g hg => hb g (hl g hg).1 (hl g hg).2, hBS, h4, h5.up hs (Nat.le_refl _) fun j j1 j2 => hb j (by omega) j2⟩
/-- Questions that were copied. -/
def RowD (B S : Nat) (s : Sl) (rs : List Qn) (w : World) : Prop := ∃ ps : List (Sl × Qn), ps.map (·.2) = rs ∧ ps.length = s.n ∧ w.ownsRow B 55 3 (.slice s.a s.n s.c) s.n (cellsQ ps) ∧ B ≤ S ∧ (∀ g, (Value.slice s.a s.n s.c).ownBlock = some g → g < S) ∧ Stb S w.heap.size (fun W => ∀ p ∈ ps, QRd W p.1 p.2) w
theorem row_qs {B n c : Nat} {a : Option Addr} {w : World} {ps : List (Sl × Qn)} (h : w.ownsRow B 55 3 (.slice a n c) n (cellsQ ps)) (hn : ps.length = n) (hr : ∀ p ∈ ps, QRd w p.1 p.2) (hb : ∀ p ∈ ps, p.2.ty < 65536 ∧ p.2.cl < 65536) : QsRd w ⟨a, n, c⟩ (ps.map (·.2)) := by
  rcases h.2 with ⟨e, h0⟩ | ⟨g, cap, cur, e, hb', hg, k1, k2, k3, k4⟩
  · simp only [Value.slice.injEq] at e
    obtain ⟨rfl, rfl, rfl⟩ := e
    have : ps = [] := List.length_eq_zero_iff.1 hn
    subst this
    exact ⟨.inl rfl, rfl, ⟨Nat.le_refl _, by simp only; omega⟩, fun _ => rfl⟩
  · simp only [Value.slice.injEq] at e
    obtain ⟨rfl, -, rfl⟩ := e
    refine ⟨.inr ⟨g, 0, rfl, (Array.getElem?_eq_some_iff.1 hg).1, fun i hi => ?_⟩, by simp [hn], ⟨k1, by simpa only [maxLen] using k2⟩, by simp⟩
    have hi' : i < ps.length := by simpa using hi
    have hgi : (ps.map (·.2))[i] = ps[i].2 := by simp
    rw [hgi]
    have hat := rowq_at h hn (k := i) (by omega)
    have hbb := hb _ (List.getElem_mem hi')
    refine ⟨⟨ps[i].1, ps[i].2.ty, ps[i].2.cl⟩, ?_, ?_, ?_, hr _ (List.getElem_mem _), rfl, rfl, hbb.1, hbb.2⟩
    · have := hat 0 (by omega); simpa [qCells] using this
    · have := hat 1 (by omega); simpa [qCells] using this
    · have := hat 2 (by omega); simpa [qCells] using this
theorem RowD.stb {B S : Nat} {s : Sl} {rs : List Qn} {w : World} (h : RowD B S s rs w) (hq : ∀ q ∈ rs, q.ty < 65536 ∧ q.cl < 65536) : Stb B w.heap.size (fun W => QsRd W s rs) w := by
  obtain ⟨ps, h1, h2, h3, hBS, h4, h5⟩ := h
  refine ⟨Nat.le_refl _, fun w' hs hb => ?_⟩
  subst h1
  have hl : ∀ g, (Value.slice s.a s.n s.c).ownBlock = some g → B ≤ g ∧ g < w.heap.size := fun g hg => h3.lt g hg
  exact row_qs (row_same h3 fun g hg => hb g (hl g hg).1 (hl g hg).2) h2 (h5.2 w' hs fun j j1 j2 => hb j (by omega) j2) (fun p hp => hq _ (List.mem_map_of_mem (f := (·.2)) hp))
/-- Questions half copied: the first so many new, the others as they were. -/
def HalfQ (w : World) (B S : Nat) (s : Sl) (rs : List Qn) (k : Nat) (wr : World) : Prop := ∃ ps : List (Sl × Qn), ps.map (·.2) = rs ∧ ps.length = s.n ∧ wr.ownsRow B 55 3 (.slice s.a s.n s.c) s.n (cellsQ ps) ∧ (∀ p ∈ ps.drop k, QRd w p.1 p.2) ∧ Stb S wr.heap.size (fun W => ∀ p ∈ ps.take k, QRd W p.1 p.2) wr
def HalfR (w : World) (B S : Nat) (s : Sl) (rs : List Rec) (k : Nat) (wr : World) : Prop := ∃ ps : List (RA × Rec), ps.map (·.2) = rs ∧ ps.length = s.n ∧ wr.ownsRow B 62 8 (.slice s.a s.n s.c) s.n (cellsR ps) ∧ (∀ p ∈ ps.drop k, RRd w p.1 p.2) ∧ Stb S wr.heap.size (fun W => ∀ p ∈ ps.take k, RRd W p.1 p.2) wr
theorem map_set_same {α β : Type} (ps : List (α × β)) (k : Nat) (hk : k < ps.length) (y : α) : (ps.set k (y, ps[k].2)).map (·.2) = ps.map (·.2) := by
  refine List.ext_getElem (by simp) fun i h1 h2 => ?_
  simp only [List.getElem_map, List.getElem_set]
  split
  · next e => subst e; rfl
  · rfl
theorem take_set_mem {α : Type} {l : List α} {k : Nat} {y p : α} (hk : k < l.length) (h : p ∈ (l.set k y).take (k + 1)) : p ∈ l.take k ∨ p = y := by
  rw [List.take_succ_eq_append_getElem (by simpa using hk)] at h
  rcases List.mem_append.1 h with h | h
  · left
    rwa [List.take_set_of_le (Nat.le_refl k)] at h
  · right
    simpa using h
theorem drop_set {α : Type} {l : List α} {k : Nat} {y : α} : (l.set k y).drop (k + 1) = l.drop (k + 1) := by
  rw [List.drop_set_of_lt (by omega)]
theorem HalfQ.step {w wr w2 w3 : World} {B S k g c n : Nat} {rs : List Qn} {y : Sl} {ps : List (Sl × Qn)} (h1 : ps.map (·.2) = rs) (h2 : ps.length = n) (h3 : wr.ownsRow B 55 3 (.slice (some ⟨g, 0, none⟩) n c) n (cellsQ ps)) (h4 : ∀ p ∈ ps.drop k, QRd w p.1 p.2) (h5 : Stb S wr.heap.size (fun W => ∀ p ∈ ps.take k, QRd W p.1 p.2) wr) (hk : k < n) (hg : g < S) (hS : S ≤ wr.heap.size) (hy : QOwx wr.heap.size w2 y (ps[k]'(by omega)).2) (hb : Below wr.heap.size wr w2) (hw : w3 = w2.setCell ⟨g, k * 3, none⟩ (.slice y.a y.n y.c)) : HalfQ w B S ⟨some ⟨g, 0, none⟩, n, c⟩ rs (k + 1) w3 := by
  subst hw
  have hs := hb.size
  have hsz : (w2.setCell ⟨g, k * 3, none⟩ (.slice y.a y.n y.c)).heap.size = w2.heap.size := by simp [World.setCell]
  have ho : ∀ j, j ≠ g → (w2.setCell ⟨g, k * 3, none⟩ (.slice y.a y.n y.c)).heap[j]? = w2.heap[j]? := fun j hj => Below.heap_setCell _ _ _ _ hj
  refine ⟨ps.set k (y, (ps[k]'(by omega)).2), ?_, by simp [h2], row_put1 (ownsRow_stays h3 hb) h2 hk rfl, ?_, ?_⟩
  · rw [← h1]; exact map_set_same _ _ (by omega) _
  · rw [drop_set]
    exact fun p hp => h4 p (by
      rw [← List.drop_drop] at hp
      exact List.mem_of_mem_drop hp)
  · have hn1 := (Stb.qns hy).up (S' := (w2.setCell ⟨g, k * 3, none⟩ (.slice y.a y.n y.c)).heap.size) (w' := w2.setCell ⟨g, k * 3, none⟩ (.slice y.a y.n y.c)) (by omega) (Nat.le_refl _) fun j j1 j2 => ho j (by omega)
    have hn2 := h5.up (S' := (w2.setCell ⟨g, k * 3, none⟩ (.slice y.a y.n y.c)).heap.size) (w' := w2.setCell ⟨g, k * 3, none⟩ (.slice y.a y.n y.c)) (by omega) (Nat.le_refl _) fun j j1 j2 => (ho j (by omega)).trans (hb.block j j2)
    refine ⟨Nat.le_refl _, fun w' e1 e2 p hp => ?_⟩
    rcases take_set_mem (by omega) hp with hp | rfl
    · exact hn2.2 w' e1 e2 p hp
    · exact hn1.2 w' e1 (fun j j1 j2 => e2 j (by omega) j2)
theorem HalfR.step {w wr w2 w3 : World} {B S k g c n : Nat} {rs : List Rec} {y : RA} {ps : List (RA × Rec)} (h1 : ps.map (·.2) = rs) (h2 : ps.length = n) (h3 : wr.ownsRow B 62 8 (.slice (some ⟨g, 0, none⟩) n c) n (cellsR ps)) (h4 : ∀ p ∈ ps.drop k, RRd w p.1 p.2) (h5 : Stb S wr.heap.size (fun W => ∀ p ∈ ps.take k, RRd W p.1 p.2) wr) (hk : k < n) (hg : g < S) (hS : S ≤ wr.heap.size) (hy : ROwx wr.heap.size w2 y (ps[k]'(by omega)).2) (hb : Below wr.heap.size wr w2) (hw : w3 = ((((w2.setCell ⟨g, k * 8, none⟩ (.slice y.o.a y.o.n y.o.c)).setCell ⟨g, k * 8 + 4, none⟩ (.slice y.d.p1.a y.d.p1.n y.d.p1.c)).setCell ⟨g, k * 8 + 5, none⟩ (.slice y.d.p2.a y.d.p2.n y.d.p2.c)).setCell ⟨g, k * 8 + 6, none⟩ (.slice y.d.p3.a y.d.p3.n y.d.p3.c)).setCell ⟨g, k * 8 + 7, none⟩ (.slice y.d.p4.a y.d.p4.n y.d.p4.c)) : HalfR w B S ⟨some ⟨g, 0, none⟩, n, c⟩ rs (k + 1) w3 := by
  have hs := hb.size
  have hsz : w3.heap.size = w2.heap.size := by rw [hw]; exact size5 _ _ _ _ _ _ _ _ _ _ _ _
  have ho : ∀ j, j ≠ g → w3.heap[j]? = w2.heap[j]? := fun j hj => by rw [hw]; exact other5 _ _ _ _ _ _ _ _ _ _ _ _ j hj
  refine ⟨ps.set k (y, (ps[k]'(by omega)).2), ?_, by simp [h2], by rw [hw]; exact row_put5 (ownsRow_stays h3 hb) h2 hk rfl, ?_, ?_⟩
  · rw [← h1]; exact map_set_same _ _ (by omega) _
  · rw [drop_set]
    exact fun p hp => h4 p (by
      rw [← List.drop_drop] at hp
      exact List.mem_of_mem_drop hp)
  · have hn1 := (Stb.recs hy).up (S' := w3.heap.size) (w' := w3) (by omega) (Nat.le_refl _) fun j j1 j2 => ho j (by omega)
    have hn2 := h5.up (S' := w3.heap.size) (w' := w3) (by omega) (Nat.le_refl _) fun j j1 j2 => (ho j (by omega)).trans (hb.block j j2)
    refine ⟨Nat.le_refl _, fun w' e1 e2 p hp => ?_⟩
    rcases take_set_mem (by omega) hp with hp | rfl
    · exact hn2.2 w' e1 e2 p hp
    · exact hn1.2 w' e1 (fun j j1 j2 => e2 j (by omega) j2)
end Go.Proofs.YtkjnbgekaifdfaaGreat
namespace Go.Proofs.YtkjnbgekaifdfaaGreat
open Go.ChangeShapes Go.WideShapes Go.ChangeAt Go.RowKit
set_option linter.unusedVariables false
set_option linter.unusedSimpArgs false
/-- A message that was copied: its lists in new memory, the last one's row apart from all else. -/
def MCp (w : World) (x : MA) (m : Mg) (w' : World) : Prop := ∃ S3 S : Nat, w.heap.size + 2 ≤ S3 ∧ RowC S3 S x.l3 m.l3 w' ∧ Stb (w.heap.size + 2) S3 (fun W => QsRd W x.q m.qs ∧ LRd W x.l1 m.l1 ∧ LRd W x.l2 m.l2) w'
theorem MCp.mrd {w w' : World} {x : MA} {m : Mg} {H : Hd} (h : MCp w x m w') (hH : m.h = H) (hb : Mb m) : MRd w' H x m := by
  obtain ⟨S3, S, _, h1, h2⟩ := h
  have := h2.get
  exact ⟨hH, this.1, this.2.1, this.2.2, h1.lrd, hb⟩
/-- Which lists are copied so far. -/
def OutJ (w : World) (t : Sl) (x : MA) (m : Mg) (j : Nat) (X : MA) (wr : World) : Prop :=
  X.q = t ∧ (∀ i, i < 3 → j ≤ i → nth3 X i = nth3 x i) ∧
  (if j = 3 then MCp w X m wr else Stb (w.heap.size + 2) wr.heap.size (fun W => QsRd W t m.qs ∧ (0 < j → LRd W X.l1 m.l1) ∧ (1 < j → LRd W X.l2 m.l2)) wr)
theorem outj_step {w wr w9 : World} {t s : Sl} {x X : MA} {m : Mg} {j S : Nat} (hj : j < 3) (h : OutJ w t x m j X wr) (h9 : RowC wr.heap.size S s (nthL m j) w9) (hs : wr.heap.size ≤ w9.heap.size) (hw : w.heap.size + 2 ≤ wr.heap.size) (hb : ∀ i, w.heap.size + 2 ≤ i → i < wr.heap.size → w9.heap[i]? = wr.heap[i]?) : OutJ w t x m (j + 1) (putJ X j s) w9 := by
  refine ⟨(putJ_q _ _ _).trans h.1, fun i hi hji => (putJ_other X i j s hi hj (by omega)).trans (h.2.1 i hi (by omega)), ?_⟩
  have h2 := h.2.2
  rw [if_neg (by omega)] at h2
  have h3 := h2.up (Nat.le_refl _) hs hb
  have hcase : j = 0 ∨ j = 1 ∨ j = 2 := by omega
  rcases hcase with rfl | rfl | rfl
  · rw [if_neg (by omega)]
    have h4 := h9.stb
    refine ⟨Nat.le_refl _, fun W e1 e2 => ?_⟩
    have q := h3.2 W (by omega) fun i i1 i2 => e2 i i1 (by omega)
    exact ⟨q.1, fun _ => h4.2 W e1 fun i i1 i2 => e2 i (by omega) i2, fun e => by omega⟩
  · rw [if_neg (by omega)]
    have h4 := h9.stb
    refine ⟨Nat.le_refl _, fun W e1 e2 => ?_⟩
    have q := h3.2 W (by omega) fun i i1 i2 => e2 i i1 (by omega)
    exact ⟨q.1, fun _ => q.2.1 (by omega), fun _ => h4.2 W e1 fun i i1 i2 => e2 i (by omega) i2⟩
  · rw [if_pos rfl]
    refine ⟨wr.heap.size, S, by omega, h9, ?_⟩
    refine ⟨hs, fun W e1 e2 => ?_⟩
    have q := h3.2 W e1 e2
    rw [← h.1] at q
    exact ⟨q.1, q.2.1 (by omega), q.2.2 (by omega)⟩
theorem half0 {w0 w w' : World} {B S : Nat} {s : Sl} {rs : List Qn} (h : ClQ w0 w w' s rs) (hB : B = w.heap.size) (hS : S = w'.heap.size) : HalfQ w0 B S s rs 0 w' := by
  obtain ⟨ps, h1, h2, h3, h4, h5⟩ := h
  subst hB hS
  exact ⟨ps, h1, h2, h3, fun p hp => h4 p (by simpa using hp), Nat.le_refl _, fun _ _ _ p hp => by simp at hp⟩
theorem half0R {w0 w w' : World} {B S : Nat} {s : Sl} {rs : List Rec} (h : ClR w0 w w' s rs) (hB : B = w.heap.size) (hS : S = w'.heap.size) : HalfR w0 B S s rs 0 w' := by
  obtain ⟨ps, h1, h2, h3, h4, h5⟩ := h
  subst hB hS
  exact ⟨ps, h1, h2, h3, fun p hp => h4 p (by simpa using hp), Nat.le_refl _, fun _ _ _ p hp => by simp at hp⟩
theorem HalfQ.go {w wr w' : World} {B S k : Nat} {s : Sl} {rs : List Qn} (h : HalfQ w B S s rs k wr) (hBS : B ≤ S) (hs : wr.heap.size ≤ w'.heap.size) (hb : ∀ j, B ≤ j → j < wr.heap.size → w'.heap[j]? = wr.heap[j]?) : HalfQ w B S s rs k w' := by
  obtain ⟨ps, h1, h2, h3, h4, h5⟩ := h
  have hl : ∀ g, (Value.slice s.a s.n s.c).ownBlock = some g → B ≤ g ∧ g < wr.heap.size := fun g hg => h3.lt g hg
  exact ⟨ps, h1, h2, row_same h3 fun g hg => hb g (hl g hg).1 (hl g hg).2, h4, h5.up hs (Nat.le_refl _) fun j j1 j2 => hb j (by omega) j2⟩
theorem HalfR.go {w wr w' : World} {B S k : Nat} {s : Sl} {rs : List Rec} (h : HalfR w B S s rs k wr) (hBS : B ≤ S) (hs : wr.heap.size ≤ w'.heap.size) (hb : ∀ j, B ≤ j → j < wr.heap.size → w'.heap[j]? = wr.heap[j]?) : HalfR w B S s rs k w' := by
  obtain ⟨ps, h1, h2, h3, h4, h5⟩ := h
  have hl : ∀ g, (Value.slice s.a s.n s.c).ownBlock = some g → B ≤ g ∧ g < wr.heap.size := fun g hg => h3.lt g hg
  exact ⟨ps, h1, h2, row_same h3 fun g hg => hb g (hl g hg).1 (hl g hg).2, h4, h5.up hs (Nat.le_refl _) fun j j1 j2 => hb j (by omega) j2⟩
theorem HalfQ.done {w wr : World} {B S : Nat} {s : Sl} {rs : List Qn} (h : HalfQ w B S s rs s.n wr) (hBS : B ≤ S) (hg : ∀ g, (Value.slice s.a s.n s.c).ownBlock = some g → g < S) : RowD B S s rs wr := by
  obtain ⟨ps, h1, h2, h3, h4, h5⟩ := h
  rw [List.take_of_length_le (by omega)] at h5
  exact ⟨ps, h1, h2, h3, hBS, hg, h5⟩
theorem HalfR.done {w wr : World} {B S : Nat} {s : Sl} {rs : List Rec} (h : HalfR w B S s rs s.n wr) (hBS : B ≤ S) (hg : ∀ g, (Value.slice s.a s.n s.c).ownBlock = some g → g < S) : RowC B S s rs wr := by
  obtain ⟨ps, h1, h2, h3, h4, h5⟩ := h
  rw [List.take_of_length_le (by omega)] at h5
  exact ⟨ps, h1, h2, h3, hBS, hg, h5⟩
end Go.Proofs.YtkjnbgekaifdfaaGreat
namespace Go.Proofs.YtkjnbgekaifdfaaGreat
open Go.ChangeShapes Go.WideShapes Go.ChangeAt Go.RowKit
set_option linter.unusedVariables false
set_option linter.unusedSimpArgs false
theorem drop_mem {α : Type} {l : List α} {k : Nat} (h : k < l.length) : l[k] ∈ l.drop k := by
  rw [List.drop_eq_getElem_cons h]; exact List.mem_cons_self
theorem two_new (H : Hd) (x : MA) (w : World) : Below w.heap.size w ((w.alloc (.cells #[.int .u16 H.id, .bool H.rs, .int .i64 H.op, .bool H.aa, .bool H.tc, .bool H.rd, .bool H.ra, .bool H.ad, .bool H.cd, .int .i64 H.rc, .slice x.q.a x.q.n x.q.c, .slice x.l1.a x.l1.n x.l1.c, .slice x.l2.a x.l2.n x.l2.c, .slice x.l3.a x.l3.n x.l3.c] 26)).alloc (.cells zeroM 26)) ∧ ((w.alloc (.cells #[.int .u16 H.id, .bool H.rs, .int .i64 H.op, .bool H.aa, .bool H.tc, .bool H.rd, .bool H.ra, .bool H.ad, .bool H.cd, .int .i64 H.rc, .slice x.q.a x.q.n x.q.c, .slice x.l1.a x.l1.n x.l1.c, .slice x.l2.a x.l2.n x.l2.c, .slice x.l3.a x.l3.n x.l3.c] 26)).alloc (.cells zeroM 26)).heap[w.heap.size]? = some (.cells #[.int .u16 H.id, .bool H.rs, .int .i64 H.op, .bool H.aa, .bool H.tc, .bool H.rd, .bool H.ra, .bool H.ad, .bool H.cd, .int .i64 H.rc, .slice x.q.a x.q.n x.q.c, .slice x.l1.a x.l1.n x.l1.c, .slice x.l2.a x.l2.n x.l2.c, .slice x.l3.a x.l3.n x.l3.c] 26) ∧ ((w.alloc (.cells #[.int .u16 H.id, .bool H.rs, .int .i64 H.op, .bool H.aa, .bool H.tc, .bool H.rd, .bool H.ra, .bool H.ad, .bool H.cd, .int .i64 H.rc, .slice x.q.a x.q.n x.q.c, .slice x.l1.a x.l1.n x.l1.c, .slice x.l2.a x.l2.n x.l2.c, .slice x.l3.a x.l3.n x.l3.c] 26)).alloc (.cells zeroM 26)).heap[w.heap.size + 1]? = some (.cells zeroM 26) ∧ ((w.alloc (.cells #[.int .u16 H.id, .bool H.rs, .int .i64 H.op, .bool H.aa, .bool H.tc, .bool H.rd, .bool H.ra, .bool H.ad, .bool H.cd, .int .i64 H.rc, .slice x.q.a x.q.n x.q.c, .slice x.l1.a x.l1.n x.l1.c, .slice x.l2.a x.l2.n x.l2.c, .slice x.l3.a x.l3.n x.l3.c] 26)).alloc (.cells zeroM 26)).heap.size = w.heap.size + 2 := by
  have n1 := heap_alloc_new w (.cells #[.int .u16 H.id, .bool H.rs, .int .i64 H.op, .bool H.aa, .bool H.tc, .bool H.rd, .bool H.ra, .bool H.ad, .bool H.cd, .int .i64 H.rc, .slice x.q.a x.q.n x.q.c, .slice x.l1.a x.l1.n x.l1.c, .slice x.l2.a x.l2.n x.l2.c, .slice x.l3.a x.l3.n x.l3.c] 26)
  have n2 := heap_alloc_new (w.alloc (.cells #[.int .u16 H.id, .bool H.rs, .int .i64 H.op, .bool H.aa, .bool H.tc, .bool H.rd, .bool H.ra, .bool H.ad, .bool H.cd, .int .i64 H.rc, .slice x.q.a x.q.n x.q.c, .slice x.l1.a x.l1.n x.l1.c, .slice x.l2.a x.l2.n x.l2.c, .slice x.l3.a x.l3.n x.l3.c] 26)) (.cells zeroM 26)
  have s1 : (w.alloc (.cells #[.int .u16 H.id, .bool H.rs, .int .i64 H.op, .bool H.aa, .bool H.tc, .bool H.rd, .bool H.ra, .bool H.ad, .bool H.cd, .int .i64 H.rc, .slice x.q.a x.q.n x.q.c, .slice x.l1.a x.l1.n x.l1.c, .slice x.l2.a x.l2.n x.l2.c, .slice x.l3.a x.l3.n x.l3.c] 26)).heap.size = w.heap.size + 1 := by simp
  rw [s1] at n2
  exact ⟨((Below.refl _ w).alloc (Nat.le_refl _) _).alloc (by omega) _, (Below.heap_alloc _ _ _ (by omega)).trans n1, n2, by simp⟩
set_option maxRecDepth 100000 in
set_option maxHeartbeats 8000000 in
theorem copy38 (H : Hd) (x : MA) (m : Mg) (w : World) (hm : MRd w H x m) (hF : Fin m) :
    Calls Tryz.prog 38 #[.agg #[.int .u16 H.id, .bool H.rs, .int .i64 H.op, .bool H.aa, .bool H.tc, .bool H.rd, .bool H.ra, .bool H.ad, .bool H.cd, .int .i64 H.rc, .slice x.q.a x.q.n x.q.c, .slice x.l1.a x.l1.n x.l1.c, .slice x.l2.a x.l2.n x.l2.c, .slice x.l3.a x.l3.n x.l3.c]] w fun e w' => ∃ X : MA, e = .returned (.agg #[.int .u16 H.id, .bool H.rs, .int .i64 H.op, .bool H.aa, .bool H.tc, .bool H.rd, .bool H.ra, .bool H.ad, .bool H.cd, .int .i64 H.rc, .slice X.q.a X.q.n X.q.c, .slice X.l1.a X.l1.n X.l1.c, .slice X.l2.a X.l2.n X.l2.c, .slice X.l3.a X.l3.n X.l3.c]) ∧ Hid (MCp w X m w' ∧ Below w.heap.size w w') := by
  have hf := two_new H x w
  have HF := Lib.hid hf
  unfold zeroM at HF
  have HM := Lib.hid hm
  have HFI := Lib.hid hF
  have hqn : x.q.n ≤ 1000000 := by have := hm.q.len; have := hF.n; omega
  have K63 : Hid (∀ W, Below w.heap.size w W → Calls Tryz.prog 63 #[(.slice x.q.a x.q.n x.q.c)] W fun e w' => ∃ t : Sl, e = .returned (.slice t.a t.n t.c) ∧ Hid (t.n = x.q.n ∧ ClQ w W w' t m.qs)) := fun W hW => clone63 x.q m.qs w W hm.q hW hqn
  have K65 : Hid (∀ j, j < 3 → ∀ W, Below w.heap.size w W → Calls Tryz.prog 65 #[(.slice (nth3 x j).a (nth3 x j).n (nth3 x j).c)] W fun e w' => ∃ t : Sl, e = .returned (.slice t.a t.n t.c) ∧ Hid (t.n = (nth3 x j).n ∧ ClR w W w' t (nthL m j))) := fun j hj W hW => clone65 (nth3 x j) (nthL m j) w W (hm.nth j).1 hW (by
    have h1 := (hm.nth j).1.len
    have h2 := hF.t
    unfold tot at h2
    unfold nthL at h1
    split at h1 <;> (try split at h1) <;> omega)
  have KN : Hid (∀ (s : Sl) (ss : List ByteArray) (W : World), TRd W s ss → s.n ≤ 1000000 → Calls Tryz.prog 64 #[(.slice s.a s.n s.c)] W fun e w' => ∃ y : Sl, e = .returned (.slice y.a y.n y.c) ∧ Hid (Owx1 W.heap.size w' y ss ∧ Below W.heap.size W w')) := fun s ss W h1 h2 => ncopy64 s ss W h1 h2
  have KD : Hid (∀ (y : DA) (d : Dat) (W : World), DRd W y d → Bd d → Calls Tryz.prog 66 #[.agg #[.slice y.p1.a y.p1.n y.p1.c, .slice y.p2.a y.p2.n y.p2.c, .slice y.p3.a y.p3.n y.p3.c, .slice y.p4.a y.p4.n y.p4.c]] W fun e w' => ∃ z : DA, e = .returned (.agg #[.slice z.p1.a z.p1.n z.p1.c, .slice z.p2.a z.p2.n z.p2.c, .slice z.p3.a z.p3.n z.p3.c, .slice z.p4.a z.p4.n z.p4.c]) ∧ Hid (DOwx W.heap.size w' z d ∧ Below W.heap.size W w')) := fun y d W h1 h2 => copy5_wide y d W h1 h2.wb
  have KSec : Hid (∀ W, Calls Tryz.prog 43 #[.pointer (some ⟨w.heap.size, 0, none⟩)] W fun e w' => e = .returned (.agg #[.pointer (some ⟨w.heap.size, 11, none⟩), .pointer (some ⟨w.heap.size, 12, none⟩), .pointer (some ⟨w.heap.size, 13, none⟩)]) ∧ Hid (Below W.heap.size W w')) := fun W => sections_any w.heap.size W
  clear hm hF hf
  have k10 := box_cell HF.out.2.1 10 _ rfl
  have lb0 := box_lt HF.out.2.1
  go_enter Tryz.func38, Tryz.ntmps38
  go_wp2_with fail
  generalize ((w.alloc (.cells #[.int .u16 H.id, .bool H.rs, .int .i64 H.op, .bool H.aa, .bool H.tc, .bool H.rd, .bool H.ra, .bool H.ad, .bool H.cd, .int .i64 H.rc, .slice x.q.a x.q.n x.q.c, .slice x.l1.a x.l1.n x.l1.c, .slice x.l2.a x.l2.n x.l2.c, .slice x.l3.a x.l3.n x.l3.c] 26)).alloc (.cells #[.int .u16 0, .bool false, .int .i64 0, .bool false, .bool false, .bool false, .bool false, .bool false, .bool false, .int .i64 0, .slice none 0 0, .slice none 0 0, .slice none 0 0, .slice none 0 0] 26)) = Z at *
  refine (K63.out _ HF.out.1).mono ?_
  rintro e w1 ⟨⟨ta, tn, tc⟩, rfl, H1⟩
  simp only at H1 ⊢
  obtain ⟨b, hbb⟩ : ∃ b, b = w.heap.size := ⟨_, rfl⟩
  have HBW : Hid (b = w.heap.size) := hbb
  have HS1 : Hid (Z.heap.size = w.heap.size + 2) := HF.out.2.2.2
  obtain ⟨S1, hS1⟩ : ∃ S1, S1 = w1.heap.size := ⟨_, rfl⟩
  have HSS : Hid (S1 = w1.heap.size) := hS1
  have HBW1 : Hid (Below Z.heap.size Z w1) := (H1.out.2.choose_spec).2.2.2.2
  have hx1 : w1.heap[b]? = some (.cells #[.int .u16 H.id, .bool H.rs, .int .i64 H.op, .bool H.aa, .bool H.tc, .bool H.rd, .bool H.ra, .bool H.ad, .bool H.cd, .int .i64 H.rc, .slice x.q.a x.q.n x.q.c, .slice x.l1.a x.l1.n x.l1.c, .slice x.l2.a x.l2.n x.l2.c, .slice x.l3.a x.l3.n x.l3.c] 26) := by rw [hbb]; exact (HBW1.out.block _ lb0).trans HF.out.2.1
  have hz1 : w1.heap[b + 1]? = some (.cells zeroM 26) := by rw [hbb]; exact (HBW1.out.block _ (box_lt HF.out.2.2.1)).trans HF.out.2.2.1
  rw [← hbb] at KSec ⊢
  have HX1 := Lib.hid hx1
  have HZ1 := Lib.hid hz1
  have e10 := box_cell hx1 10 _ rfl
  have f10 : w1.frozen? ⟨b, 10, none⟩ = false := box_frozen hx1 10
  have lb1 := box_lt hx1
  have HX2 : Hid ((w1.setCell ⟨b, 10, none⟩ (.slice ta tn tc)).heap[b]? = some (.cells #[.int .u16 H.id, .bool H.rs, .int .i64 H.op, .bool H.aa, .bool H.tc, .bool H.rd, .bool H.ra, .bool H.ad, .bool H.cd, .int .i64 H.rc, .slice (MA.mk ⟨ta, tn, tc⟩ x.l1 x.l2 x.l3).q.a (MA.mk ⟨ta, tn, tc⟩ x.l1 x.l2 x.l3).q.n (MA.mk ⟨ta, tn, tc⟩ x.l1 x.l2 x.l3).q.c, .slice (MA.mk ⟨ta, tn, tc⟩ x.l1 x.l2 x.l3).l1.a (MA.mk ⟨ta, tn, tc⟩ x.l1 x.l2 x.l3).l1.n (MA.mk ⟨ta, tn, tc⟩ x.l1 x.l2 x.l3).l1.c, .slice (MA.mk ⟨ta, tn, tc⟩ x.l1 x.l2 x.l3).l2.a (MA.mk ⟨ta, tn, tc⟩ x.l1 x.l2 x.l3).l2.n (MA.mk ⟨ta, tn, tc⟩ x.l1 x.l2 x.l3).l2.c, .slice (MA.mk ⟨ta, tn, tc⟩ x.l1 x.l2 x.l3).l3.a (MA.mk ⟨ta, tn, tc⟩ x.l1 x.l2 x.l3).l3.n (MA.mk ⟨ta, tn, tc⟩ x.l1 x.l2 x.l3).l3.c] 26)) := box_set hx1 10 _
  have HO2 : Hid (∀ j, j ≠ b → (w1.setCell ⟨b, 10, none⟩ (.slice ta tn tc)).heap[j]? = w1.heap[j]?) := fun j hj => Below.heap_setCell _ _ _ _ hj
  have HZ2 : Hid ((w1.setCell ⟨b, 10, none⟩ (.slice ta tn tc)).heap.size = w1.heap.size) := by show _ = _; simp [World.setCell]
  have HBE2 : Hid (Below w.heap.size w (w1.setCell ⟨b, 10, none⟩ (.slice ta tn tc))) := (HF.out.1.trans (HBW1.out.mono HF.out.1.size)).setCell (p := ⟨b, 10, none⟩) (by have := HBW.out; simp only; omega) _
  clear k10 lb0 hbb hS1 hx1 hz1 K63
  go_wp2_with fail
  generalize w1.setCell ⟨b, 10, none⟩ (.slice ta tn tc) = w2 at *
  clear e10 f10 lb1
  have HTN : Hid (tn = x.q.n) := H1.out.1
  have HG : Hid (∀ g, (Value.slice ta tn tc).ownBlock = some g → g < S1) := fun g hg => by
    obtain ⟨ps, p1, p2, p3, _⟩ := H1.out.2
    have := p3.lt g hg
    have := HSS.out
    omega
  have HQ0 : Hid (HalfQ w Z.heap.size S1 ⟨ta, tn, tc⟩ m.qs 0 w2) := (half0 H1.out.2 rfl HSS.out).go (by have := HSS.out; have := HBW1.out.size; omega) (by rw [HZ2.out]; exact Nat.le_refl _) (fun j j1 j2 => HO2.out j (by have := HBW.out; have := HS1.out; omega))
  have HZ3 : Hid (w2.heap[b + 1]? = some (.cells zeroM 26)) := (HO2.out _ (by omega)).trans HZ1.out
  have HSL : Hid (S1 ≤ w2.heap.size) := (by show S1 ≤ _; rw [HZ2.out, HSS.out]; exact Nat.le_refl _)
  have HZB : Hid (Z.heap.size = b + 2 ∧ b + 2 ≤ S1) := ⟨by have := HBW.out; have := HS1.out; omega, by have := HBW.out; have := HS1.out; have := HBW1.out.size; have := HSS.out; omega⟩
  have htn : tn ≤ 1000000 := by have := HTN.out; omega
  obtain ⟨BZ, hBZ⟩ : ∃ BZ, BZ = Z.heap.size := ⟨_, rfl⟩
  rw [← hBZ] at HQ0 HZB
  clear HX1 HZ1 HBW1 HSS HZ2 HO2 H1 HF hBZ HS1
  go_loopw [16] (fun y wr => ∃ k : Nat, k ≤ tn ∧ y = .int .i64 (k : Int) ∧ Hid (wr.heap[b]? = some (.cells #[.int .u16 H.id, .bool H.rs, .int .i64 H.op, .bool H.aa, .bool H.tc, .bool H.rd, .bool H.ra, .bool H.ad, .bool H.cd, .int .i64 H.rc, .slice (MA.mk ⟨ta, tn, tc⟩ x.l1 x.l2 x.l3).q.a (MA.mk ⟨ta, tn, tc⟩ x.l1 x.l2 x.l3).q.n (MA.mk ⟨ta, tn, tc⟩ x.l1 x.l2 x.l3).q.c, .slice (MA.mk ⟨ta, tn, tc⟩ x.l1 x.l2 x.l3).l1.a (MA.mk ⟨ta, tn, tc⟩ x.l1 x.l2 x.l3).l1.n (MA.mk ⟨ta, tn, tc⟩ x.l1 x.l2 x.l3).l1.c, .slice (MA.mk ⟨ta, tn, tc⟩ x.l1 x.l2 x.l3).l2.a (MA.mk ⟨ta, tn, tc⟩ x.l1 x.l2 x.l3).l2.n (MA.mk ⟨ta, tn, tc⟩ x.l1 x.l2 x.l3).l2.c, .slice (MA.mk ⟨ta, tn, tc⟩ x.l1 x.l2 x.l3).l3.a (MA.mk ⟨ta, tn, tc⟩ x.l1 x.l2 x.l3).l3.n (MA.mk ⟨ta, tn, tc⟩ x.l1 x.l2 x.l3).l3.c] 26) ∧ wr.heap[b + 1]? = some (.cells zeroM 26) ∧ HalfQ w BZ S1 ⟨ta, tn, tc⟩ m.qs k wr ∧ S1 ≤ wr.heap.size ∧ Below w.heap.size w wr)) (fun y _ => tn - (intOf y).toNat)
  case atStart => exact ⟨0, Nat.zero_le _, rfl, HX2.out, HZ3.out, HQ0.out, HSL.out, HBE2.out⟩
  case round =>
    obtain ⟨k, hk, rfl, HW⟩ := hrel
    clear HQ0 HZ3 HX2 HSL HBE2
    by_cases hlt : k < tn
    · have hlt' : (k : Int) < (tn : Int) := by omega
      obtain ⟨ps, p1, p2, p3, p4, p5⟩ := HW.out.2.2.1
      obtain ⟨g, hg⟩ := rowr_shape p3 (by simp only; omega)
      simp only at hg p2 p3
      subst hg
      have hgS : g < S1 := HG.out g rfl
      have hat := rowq_at p3 p2 hlt 0 (by omega)
      have hkl : k < ps.length := by omega
      have hmem : ps[k].2 ∈ m.qs := by rw [← p1]; exact List.mem_map_of_mem (f := (·.2)) (List.getElem_mem hkl)
      have hrd : TRd wr ps[k].1 ps[k].2.nm := QRd.below (p4 _ (drop_mem hkl)) HW.out.2.2.2.2
      have hpn : ps[k].1.n ≤ 1000000 := by have := hrd.len; have := HFI.out.q _ hmem; omega
      have KA := Lib.hid (KN.out _ _ wr hrd hpn)
      have HP := Lib.hid (show ps.map (·.2) = m.qs ∧ ps.length = tn ∧ wr.ownsRow BZ 55 3 (.slice (some ⟨g, 0, none⟩) tn tc) tn (cellsQ ps) ∧ (∀ p ∈ ps.drop k, QRd w p.1 p.2) ∧ Stb S1 wr.heap.size (fun W => ∀ p ∈ ps.take k, QRd W p.1 p.2) wr from ⟨p1, p2, p3, p4, p5⟩)
      have hgr := (row_lt p3).2.1
      have hcap := (row_lt p3).2.2
      have HFZ : Hid (∀ W, Below wr.heap.size wr W → W.frozen? ⟨g, k * 3, none⟩ = false) := fun W hW => row_frozen (ownsRow_stays p3 hW) _
      have e10 := box_cell HW.out.1 10 _ rfl
      have lb := box_lt HW.out.1
      have HEQ : Hid (QOwx = fun B W y (r : Qn) => Owx1 B W y r.nm) := rfl
      obtain ⟨⟨pa, pn, pc⟩, hpe⟩ : ∃ y, y = ps[k].1 := ⟨_, rfl⟩
      rw [← hpe] at KA
      simp only [qCells, List.getElem?_cons_zero, Nat.add_zero, ← hpe] at hat
      simp only at KA e10
      have HNM := Lib.hid (show ∀ y w2, Owx1 wr.heap.size w2 y ps[k].2.nm → QOwx wr.heap.size w2 y ps[k].2 from fun _ _ h => h)
      obtain ⟨nm, hnm⟩ : ∃ nm, nm = ps[k].2.nm := ⟨_, rfl⟩
      rw [← hnm] at KA HNM
      clear p1 p2 p3 p4 p5 hmem hrd hpn hpe hnm
      go_wp2_with fail
      refine KA.out.mono ?_
      rintro e w3 ⟨⟨ya, yn, yc⟩, rfl, H3⟩
      have c3 : w3.cell? ⟨g, k * 3, none⟩ = some (.slice pa pn pc) := (H3.out.2.cell (p := ⟨g, k * 3, none⟩) hgr).trans hat
      have z3 := HFZ.out w3 H3.out.2
      have g3 : g < w3.heap.size := Nat.lt_of_lt_of_le hgr H3.out.2.size
      have HEND : Hid ((w3.setCell ⟨g, k * 3, none⟩ (.slice ya yn yc)).heap[b]? = some (.cells #[.int .u16 H.id, .bool H.rs, .int .i64 H.op, .bool H.aa, .bool H.tc, .bool H.rd, .bool H.ra, .bool H.ad, .bool H.cd, .int .i64 H.rc, .slice (MA.mk ⟨some ⟨g, 0, none⟩, tn, tc⟩ x.l1 x.l2 x.l3).q.a (MA.mk ⟨some ⟨g, 0, none⟩, tn, tc⟩ x.l1 x.l2 x.l3).q.n (MA.mk ⟨some ⟨g, 0, none⟩, tn, tc⟩ x.l1 x.l2 x.l3).q.c, .slice (MA.mk ⟨some ⟨g, 0, none⟩, tn, tc⟩ x.l1 x.l2 x.l3).l1.a (MA.mk ⟨some ⟨g, 0, none⟩, tn, tc⟩ x.l1 x.l2 x.l3).l1.n (MA.mk ⟨some ⟨g, 0, none⟩, tn, tc⟩ x.l1 x.l2 x.l3).l1.c, .slice (MA.mk ⟨some ⟨g, 0, none⟩, tn, tc⟩ x.l1 x.l2 x.l3).l2.a (MA.mk ⟨some ⟨g, 0, none⟩, tn, tc⟩ x.l1 x.l2 x.l3).l2.n (MA.mk ⟨some ⟨g, 0, none⟩, tn, tc⟩ x.l1 x.l2 x.l3).l2.c, .slice (MA.mk ⟨some ⟨g, 0, none⟩, tn, tc⟩ x.l1 x.l2 x.l3).l3.a (MA.mk ⟨some ⟨g, 0, none⟩, tn, tc⟩ x.l1 x.l2 x.l3).l3.n (MA.mk ⟨some ⟨g, 0, none⟩, tn, tc⟩ x.l1 x.l2 x.l3).l3.c] 26) ∧ (w3.setCell ⟨g, k * 3, none⟩ (.slice ya yn yc)).heap[b + 1]? = some (.cells zeroM 26) ∧ HalfQ w BZ S1 ⟨some ⟨g, 0, none⟩, tn, tc⟩ m.qs (k + 1) (w3.setCell ⟨g, k * 3, none⟩ (.slice ya yn yc)) ∧ S1 ≤ (w3.setCell ⟨g, k * 3, none⟩ (.slice ya yn yc)).heap.size ∧ Below w.heap.size w (w3.setCell ⟨g, k * 3, none⟩ (.slice ya yn yc))) := by
        have hgB : BZ ≤ g := (row_lt HP.out.2.2.1).1
        have hZB := HZB.out
        have ho : ∀ j, j ≠ g → (w3.setCell ⟨g, k * 3, none⟩ (.slice ya yn yc)).heap[j]? = w3.heap[j]? := fun j hj => Below.heap_setCell _ _ _ _ hj
        have hsz : (w3.setCell ⟨g, k * 3, none⟩ (.slice ya yn yc)).heap.size = w3.heap.size := by simp [World.setCell]
        refine ⟨(ho b (by omega)).trans ((H3.out.2.block b lb).trans HW.out.1), (ho (b + 1) (by omega)).trans ((H3.out.2.block _ (box_lt HW.out.2.1)).trans HW.out.2.1), HalfQ.step (y := ⟨ya, yn, yc⟩) HP.out.1 HP.out.2.1 HP.out.2.2.1 HP.out.2.2.2.1 HP.out.2.2.2.2 hlt hgS HW.out.2.2.2.1 (HNM.out _ _ H3.out.1) H3.out.2 rfl, by rw [hsz]; exact Nat.le_trans HW.out.2.2.2.1 H3.out.2.size, ?_⟩
        exact (HW.out.2.2.2.2.trans (H3.out.2.mono HW.out.2.2.2.2.size)).setCell (p := ⟨g, k * 3, none⟩) (by have := HBW.out; simp only; omega) _
      clear hat
      go_wp2
      go_round
      case rel => exact ⟨k + 1, by omega, by go_num, HEND.out⟩
      case measure => simp [intOf]; omega
    · have hkk : tn = k := by omega
      subst hkk
      have HO0 : Hid (OutJ w ⟨ta, tn, tc⟩ x m 0 ⟨⟨ta, tn, tc⟩, x.l1, x.l2, x.l3⟩ wr) := by
        have h1 := HW.out.2.2.1.done (by have := HZB.out; omega) HG.out
        refine ⟨rfl, fun i hi _ => ?_, ?_⟩
        · have : i = 0 ∨ i = 1 ∨ i = 2 := by omega
          rcases this with rfl | rfl | rfl <;> rfl
        · rw [if_neg (by omega)]
          have h2 := h1.stb (fun q hq => by have := HM.out.b.2.1 q hq; unfold Qb at this; omega)
          have h3 : w.heap.size + 2 = BZ := by have := HZB.out; have := HBW.out; omega
          rw [h3]
          exact ⟨Nat.le_refl _, fun W e1 e2 => ⟨h2.2 W e1 e2, fun e => by omega, fun e => by omega⟩⟩
      have HW1 : Hid (wr.heap[b]? = some (.cells #[.int .u16 H.id, .bool H.rs, .int .i64 H.op, .bool H.aa, .bool H.tc, .bool H.rd, .bool H.ra, .bool H.ad, .bool H.cd, .int .i64 H.rc, .slice (MA.mk ⟨ta, tn, tc⟩ x.l1 x.l2 x.l3).q.a (MA.mk ⟨ta, tn, tc⟩ x.l1 x.l2 x.l3).q.n (MA.mk ⟨ta, tn, tc⟩ x.l1 x.l2 x.l3).q.c, .slice (MA.mk ⟨ta, tn, tc⟩ x.l1 x.l2 x.l3).l1.a (MA.mk ⟨ta, tn, tc⟩ x.l1 x.l2 x.l3).l1.n (MA.mk ⟨ta, tn, tc⟩ x.l1 x.l2 x.l3).l1.c, .slice (MA.mk ⟨ta, tn, tc⟩ x.l1 x.l2 x.l3).l2.a (MA.mk ⟨ta, tn, tc⟩ x.l1 x.l2 x.l3).l2.n (MA.mk ⟨ta, tn, tc⟩ x.l1 x.l2 x.l3).l2.c, .slice (MA.mk ⟨ta, tn, tc⟩ x.l1 x.l2 x.l3).l3.a (MA.mk ⟨ta, tn, tc⟩ x.l1 x.l2 x.l3).l3.n (MA.mk ⟨ta, tn, tc⟩ x.l1 x.l2 x.l3).l3.c] 26) ∧ wr.heap[b + 1]? = some (.cells zeroM 26) ∧ b + 2 ≤ wr.heap.size ∧ Below w.heap.size w wr) := ⟨HW.out.1, HW.out.2.1, by have := HW.out.2.2.2.1; have := HZB.out; omega, HW.out.2.2.2.2⟩
      clear HW HG HTN HZB
      go_wp2_with fail
      refine (KSec.out _).mono ?_
      rintro e w4 ⟨rfl, H4⟩
      obtain ⟨X0, hX0⟩ : ∃ X0 : MA, X0 = ⟨⟨ta, tn, tc⟩, x.l1, x.l2, x.l3⟩ := ⟨_, rfl⟩
      have HB4 : Hid (w4.heap[b]? = some (.cells #[.int .u16 H.id, .bool H.rs, .int .i64 H.op, .bool H.aa, .bool H.tc, .bool H.rd, .bool H.ra, .bool H.ad, .bool H.cd, .int .i64 H.rc, .slice X0.q.a X0.q.n X0.q.c, .slice X0.l1.a X0.l1.n X0.l1.c, .slice X0.l2.a X0.l2.n X0.l2.c, .slice X0.l3.a X0.l3.n X0.l3.c] 26) ∧ w4.heap[b + 1]? = some (.cells zeroM 26) ∧ OutJ w ⟨ta, tn, tc⟩ x m 0 X0 w4 ∧ b + 2 ≤ w4.heap.size ∧ Below w.heap.size w w4) := by
        refine ⟨?_, (H4.out.block _ (box_lt HW1.out.2.1)).trans HW1.out.2.1, ?_, by have := HW1.out.2.2.1; have := H4.out.size; omega, HW1.out.2.2.2.trans (H4.out.mono HW1.out.2.2.2.size)⟩
        · rw [hX0]; exact (H4.out.block _ (box_lt HW1.out.1)).trans HW1.out.1
        · rw [hX0]
          have h := HO0.out
          have h3 := h.2.2
          rw [if_neg (by omega)] at h3
          refine ⟨h.1, h.2.1, ?_⟩
          rw [if_neg (by omega)]
          exact h3.up H4.out.size (Nat.le_refl _) fun i _ i2 => H4.out.block i i2
      clear HO0 HW1 H4 hX0 KSec
      go_wp2_with fail
      obtain ⟨wz, hwz⟩ : ∃ x, x = wr := ⟨_, rfl⟩
      clear hwz
      go_loopw [33] (fun z wo => ∃ j : Nat, j ≤ 3 ∧ z = .int .i64 (j : Int) ∧ Hid (∃ X : MA, wo.heap[b]? = some (.cells #[.int .u16 H.id, .bool H.rs, .int .i64 H.op, .bool H.aa, .bool H.tc, .bool H.rd, .bool H.ra, .bool H.ad, .bool H.cd, .int .i64 H.rc, .slice X.q.a X.q.n X.q.c, .slice X.l1.a X.l1.n X.l1.c, .slice X.l2.a X.l2.n X.l2.c, .slice X.l3.a X.l3.n X.l3.c] 26) ∧ wo.heap[b + 1]? = some (.cells zeroM 26) ∧ OutJ w ⟨ta, tn, tc⟩ x m j X wo ∧ b + 2 ≤ wo.heap.size ∧ Below w.heap.size w wo)) (fun z _ => 3 - (intOf z).toNat)
      case atStart => exact ⟨0, by omega, rfl, X0, HB4.out⟩
      case round =>
        obtain ⟨j, hj, rfl, HK⟩ := hrel
        obtain ⟨wo, hwo⟩ : ∃ x, x = wr := ⟨_, rfl⟩
        rw [← hwo] at HK ⊢
        clear hwo HB4
        by_cases hlt3 : j < 3
        · have h3 : (j : Int) < 3 := by omega
          obtain ⟨X, hX⟩ := HK.out
          have HX := Lib.hid hX
          have hix := ixS b j hlt3
          have hcl := mbox_list (x := X) hX.1 j hlt3
          rw [hX.2.2.1.2.1 j hlt3 (Nat.le_refl _)] at hcl
          have lbo := box_lt hX.1
          have KA := Lib.hid (K65.out j hlt3 wo hX.2.2.2.2)
          have HRB : Hid (∀ r ∈ nthL m j, Bd r.d ∧ r.ow.length ≤ 1000000) := fun r hr => ⟨HFI.out.d j r hr, HFI.out.o j r hr⟩
          have HLN : Hid ((nth3 x j).n ≤ 1000000) := by
            have h1 := (HM.out.nth j).1.len
            have h2 := HFI.out.t
            unfold tot at h2
            unfold nthL at h1
            show _ ≤ _
            split at h1 <;> (try split at h1) <;> omega
          obtain ⟨⟨sa, sn, sc⟩, hse⟩ : ∃ s, s = nth3 x j := ⟨_, rfl⟩
          rw [← hse] at hcl KA HLN
          obtain ⟨rs, hrs⟩ : ∃ rs, rs = nthL m j := ⟨_, rfl⟩
          rw [← hrs] at KA HRB
          have HRS := Lib.hid hrs
          simp only at hcl KA HLN
          clear hX hse hrs
          go_wp2_with fail
          refine KA.out.mono ?_
          rintro e w5 ⟨⟨ua, un, uc⟩, rfl, H5⟩
          simp only at H5 ⊢
          have HB5 : Hid (Below wo.heap.size wo w5) := (H5.out.2.choose_spec).2.2.2.2
          have hx5 : w5.heap[b]? = some (.cells #[.int .u16 H.id, .bool H.rs, .int .i64 H.op, .bool H.aa, .bool H.tc, .bool H.rd, .bool H.ra, .bool H.ad, .bool H.cd, .int .i64 H.rc, .slice X.q.a X.q.n X.q.c, .slice X.l1.a X.l1.n X.l1.c, .slice X.l2.a X.l2.n X.l2.c, .slice X.l3.a X.l3.n X.l3.c] 26) := (HB5.out.block b lbo).trans HX.out.1
          have e5 : w5.cell? ⟨b, 11 + j, none⟩ = some (.slice sa sn sc) := (HB5.out.cell (p := ⟨b, 11 + j, none⟩) lbo).trans hcl
          have f5 : w5.frozen? ⟨b, 11 + j, none⟩ = false := box_frozen hx5 _
          have lb5 := box_lt hx5
          obtain ⟨Y, hY⟩ : ∃ Y, Y = putJ X j ⟨ua, un, uc⟩ := ⟨_, rfl⟩
          have HY := Lib.hid hY
          have HX6 : Hid ((w5.setCell ⟨b, 11 + j, none⟩ (.slice ua un uc)).heap[b]? = some (.cells #[.int .u16 H.id, .bool H.rs, .int .i64 H.op, .bool H.aa, .bool H.tc, .bool H.rd, .bool H.ra, .bool H.ad, .bool H.cd, .int .i64 H.rc, .slice Y.q.a Y.q.n Y.q.c, .slice Y.l1.a Y.l1.n Y.l1.c, .slice Y.l2.a Y.l2.n Y.l2.c, .slice Y.l3.a Y.l3.n Y.l3.c] 26)) := by
            show _ = _
            rw [hY, ← putJ_step H X j ⟨ua, un, uc⟩ hlt3]
            exact box_set hx5 _ _
          have HO6 : Hid (∀ i, i ≠ b → (w5.setCell ⟨b, 11 + j, none⟩ (.slice ua un uc)).heap[i]? = w5.heap[i]?) := fun i hi => Below.heap_setCell _ _ _ _ hi
          have HZ6 : Hid ((w5.setCell ⟨b, 11 + j, none⟩ (.slice ua un uc)).heap.size = w5.heap.size) := by show _ = _; simp [World.setCell]
          have HE6 : Hid (Below w.heap.size w (w5.setCell ⟨b, 11 + j, none⟩ (.slice ua un uc))) := (HX.out.2.2.2.2.trans (HB5.out.mono HX.out.2.2.2.2.size)).setCell (p := ⟨b, 11 + j, none⟩) (by have := HBW.out; simp only; omega) _
          have HU5 : Hid (Y = putJ X j ⟨ua, un, uc⟩ → nth3 Y j = ⟨ua, un, uc⟩) := fun e => by rw [e]; exact putJ_same X j _ hlt3
          have c6 : (w5.setCell ⟨b, 11 + j, none⟩ (.slice ua un uc)).cell? ⟨b, 11 + j, none⟩ = some (.slice ua un uc) := by
            have := mbox_list (x := Y) HX6.out j hlt3
            rw [HU5.out hY] at this
            exact this
          clear hcl hY hx5
          go_wp2_with fail
          generalize w5.setCell ⟨b, 11 + j, none⟩ (.slice ua un uc) = w6 at *
          clear e5 f5 lb5 lbo
          obtain ⟨S5, hS5⟩ : ∃ S5, S5 = w5.heap.size := ⟨_, rfl⟩
          obtain ⟨B5, hB5⟩ : ∃ B5, B5 = wo.heap.size := ⟨_, rfl⟩
          have HSB : Hid (b + 2 ≤ B5 ∧ B5 ≤ S5 ∧ B5 = wo.heap.size) := ⟨by have := HX.out.2.2.2.1; omega, by have := HB5.out.size; omega, hB5⟩
          have HG : Hid (∀ g, (Value.slice ua un uc).ownBlock = some g → g < S5) := fun g hg => by
            obtain ⟨ps, p1, p2, p3, _⟩ := H5.out.2
            have := p3.lt g hg
            omega
          have HQ0 : Hid (HalfR w B5 S5 ⟨ua, un, uc⟩ rs 0 w6) := (half0R H5.out.2 hB5 hS5).go (by have := HB5.out.size; omega) (by rw [HZ6.out]; exact Nat.le_refl _) (fun i i1 i2 => HO6.out i (by have := HX.out.2.2.2.1; omega))
          have HI0 : Hid (w6.heap[b]? = some (.cells #[.int .u16 H.id, .bool H.rs, .int .i64 H.op, .bool H.aa, .bool H.tc, .bool H.rd, .bool H.ra, .bool H.ad, .bool H.cd, .int .i64 H.rc, .slice Y.q.a Y.q.n Y.q.c, .slice Y.l1.a Y.l1.n Y.l1.c, .slice Y.l2.a Y.l2.n Y.l2.c, .slice Y.l3.a Y.l3.n Y.l3.c] 26) ∧ w6.heap[b + 1]? = some (.cells zeroM 26) ∧ S5 ≤ w6.heap.size ∧ (∀ i, b + 2 ≤ i → i < B5 → w6.heap[i]? = wo.heap[i]?) ∧ Below w.heap.size w w6) := ⟨HX6.out, (HO6.out _ (by omega)).trans ((HB5.out.block _ (box_lt HX.out.2.1)).trans HX.out.2.1), by rw [HZ6.out, hS5]; exact Nat.le_refl _, fun i i1 i2 => (HO6.out i (by omega)).trans (HB5.out.block i (by omega)), HE6.out⟩
          have hun : un ≤ 1000000 := by have := H5.out.1; have := HLN.out; omega
          clear HX6 HO6 HZ6 HE6 HB5 H5 hS5 hB5 HLN KA
          go_loopw [46] (fun z wi => ∃ k : Nat, k ≤ un ∧ z = .int .i64 (k : Int) ∧ Hid (HalfR w B5 S5 ⟨ua, un, uc⟩ rs k wi ∧ wi.heap[b]? = some (.cells #[.int .u16 H.id, .bool H.rs, .int .i64 H.op, .bool H.aa, .bool H.tc, .bool H.rd, .bool H.ra, .bool H.ad, .bool H.cd, .int .i64 H.rc, .slice Y.q.a Y.q.n Y.q.c, .slice Y.l1.a Y.l1.n Y.l1.c, .slice Y.l2.a Y.l2.n Y.l2.c, .slice Y.l3.a Y.l3.n Y.l3.c] 26) ∧ wi.heap[b + 1]? = some (.cells zeroM 26) ∧ S5 ≤ wi.heap.size ∧ (∀ i, b + 2 ≤ i → i < B5 → wi.heap[i]? = wo.heap[i]?) ∧ Below w.heap.size w wi)) (fun z _ => un - (intOf z).toNat)
          case atStart => exact ⟨0, Nat.zero_le _, rfl, HQ0.out, HI0.out⟩
          case round =>
            obtain ⟨k, hk, rfl, HW⟩ := hrel
            clear HQ0 HI0 c6
            by_cases hlt : k < un
            · have hlt' : (k : Int) < (un : Int) := by omega
              obtain ⟨ps, p1, p2, p3, p4, p5⟩ := HW.out.1
              obtain ⟨g, hg⟩ := rowr_shape p3 (by simp only; omega)
              simp only at hg p2 p3
              subst hg
              have hgS : g < S5 := HG.out g rfl
              have hat := rowr_at p3 p2 hlt
              have hkl : k < ps.length := by omega
              have hmem : ps[k].2 ∈ rs := by rw [← p1]; exact List.mem_map_of_mem (f := (·.2)) (List.getElem_mem hkl)
              have hrd : RRd w ps[k].1 ps[k].2 := p4 _ (drop_mem hkl)
              have hrb := HRB.out _ hmem
              have hpn : ps[k].1.o.n ≤ 1000000 := by have := hrd.1.len; omega
              have hbw := HW.out.2.2.2.2.2
              have KNA := Lib.hid (KN.out _ _ wr.drew (hrd.1.below hbw.drew) hpn)
              have KDA := Lib.hid (fun W (hW : Below w.heap.size w W) => KD.out ps[k].1.d ps[k].2.d W (hrd.2.below hW) hrb.1)
              have HP := Lib.hid (show ps.map (·.2) = rs ∧ ps.length = un ∧ wr.ownsRow B5 62 8 (.slice (some ⟨g, 0, none⟩) un uc) un (cellsR ps) ∧ (∀ p ∈ ps.drop k, RRd w p.1 p.2) ∧ Stb S5 wr.heap.size (fun W => ∀ p ∈ ps.take k, RRd W p.1 p.2) wr from ⟨p1, p2, p3, p4, p5⟩)
              have hgr := (row_lt p3).2.1
              have hcap := (row_lt p3).2.2
              obtain ⟨⟨⟨oa, on, oc⟩, ⟨⟨a1, n1, c1⟩, ⟨a2, n2, c2⟩, ⟨a3, n3, c3⟩, ⟨a4, n4, c4⟩⟩⟩, hpe⟩ : ∃ y, y = ps[k].1 := ⟨_, rfl⟩
              have HCL : Hid (∀ W, Below wr.heap.size wr W → W.cell? ⟨g, k * 8, none⟩ = some (.slice oa on oc) ∧ W.cell? ⟨g, k * 8 + 4, none⟩ = some (.slice a1 n1 c1) ∧ W.cell? ⟨g, k * 8 + 5, none⟩ = some (.slice a2 n2 c2) ∧ W.cell? ⟨g, k * 8 + 6, none⟩ = some (.slice a3 n3 c3) ∧ W.cell? ⟨g, k * 8 + 7, none⟩ = some (.slice a4 n4 c4) ∧ (∀ i, W.frozen? ⟨g, i, none⟩ = false) ∧ g < W.heap.size) := fun W hW => by
                have q0 := hat 0 (by omega)
                have q4 := hat 4 (by omega)
                have q5 := hat 5 (by omega)
                have q6 := hat 6 (by omega)
                have q7 := hat 7 (by omega)
                simp only [recCells, List.getElem?_cons_zero, List.getElem?_cons_succ, Nat.add_zero, ← hpe] at q0 q4 q5 q6 q7
                exact ⟨(hW.cell (p := ⟨g, k * 8, none⟩) hgr).trans q0, (hW.cell (p := ⟨g, k * 8 + 4, none⟩) hgr).trans q4, (hW.cell (p := ⟨g, k * 8 + 5, none⟩) hgr).trans q5, (hW.cell (p := ⟨g, k * 8 + 6, none⟩) hgr).trans q6, (hW.cell (p := ⟨g, k * 8 + 7, none⟩) hgr).trans q7, fun i => row_frozen (ownsRow_stays p3 hW) _, Nat.lt_of_lt_of_le hgr hW.size⟩
              rw [← hpe] at KNA KDA
              simp only at KNA KDA
              have e11 := mbox_list (x := Y) HW.out.2.1 j hlt3
              rw [HU5.out HY.out] at e11
              simp only at e11
              have lb := box_lt HW.out.2.1
              have HOW := Lib.hid (show ∀ (y : RA) W, Owx1 wr.heap.size W y.o ps[k].2.ow → DOwx wr.heap.size W y.d ps[k].2.d → ROwx wr.heap.size W y ps[k].2 from fun _ _ h h' => ⟨h, h'⟩)
              obtain ⟨ow, how⟩ : ∃ ow, ow = ps[k].2.ow := ⟨_, rfl⟩
              obtain ⟨dd, hdd⟩ : ∃ dd, dd = ps[k].2.d := ⟨_, rfl⟩
              rw [← how] at KNA HOW
              rw [← hdd] at KDA HOW
              have HBWr : Hid (Below w.heap.size w wr) := hbw
              obtain ⟨d0, d4, d5, d6, d7, dz, dl⟩ := HCL.out wr.drew (Below.refl _ _).drew
              clear p1 p2 p3 p4 p5 hmem hrd hrb hpn hpe how hdd hbw hat
              go_wp2_with fail
              go_region_law (first
                | (go_simp; go_at_call 64; refine KNA.out.mono ?_; rintro e w7 ⟨⟨ya, yn, yc⟩, rfl, H7⟩; have HB7 : Hid (Below w.heap.size w w7) := (HBWr.out.drew.trans (H7.out.2.mono HBWr.out.size)); have HC7 : Hid (Below wr.heap.size wr w7) := ((Below.refl _ wr).drew.trans H7.out.2); obtain ⟨v0, v4, v5, v6, v7, vz, vl⟩ := HCL.out w7 HC7.out)
                | (go_simp; go_at_call 66; refine (KDA.out w7 HB7.out).mono ?_; rintro e w8 ⟨⟨⟨z1, q1, j1⟩, ⟨z2, q2, j2⟩, ⟨z3, q3, j3⟩, ⟨z4, q4, j4⟩⟩, rfl, H8⟩; have HC8 : Hid (Below wr.heap.size wr w8) := (HC7.out.trans (H8.out.2.mono HC7.out.size)); obtain ⟨x0, x4, x5, x6, x7, xz, xl⟩ := HCL.out w8 HC8.out)
                | fail)
              all_goals
                have HEND : Hid (HalfR w B5 S5 ⟨some ⟨g, 0, none⟩, un, uc⟩ rs (k + 1) (((((w8.setCell ⟨g, k * 8, none⟩ (.slice ya yn yc)).setCell ⟨g, k * 8 + 4, none⟩ (.slice z1 q1 j1)).setCell ⟨g, k * 8 + 5, none⟩ (.slice z2 q2 j2)).setCell ⟨g, k * 8 + 6, none⟩ (.slice z3 q3 j3)).setCell ⟨g, k * 8 + 7, none⟩ (.slice z4 q4 j4)) ∧ (((((w8.setCell ⟨g, k * 8, none⟩ (.slice ya yn yc)).setCell ⟨g, k * 8 + 4, none⟩ (.slice z1 q1 j1)).setCell ⟨g, k * 8 + 5, none⟩ (.slice z2 q2 j2)).setCell ⟨g, k * 8 + 6, none⟩ (.slice z3 q3 j3)).setCell ⟨g, k * 8 + 7, none⟩ (.slice z4 q4 j4)).heap[b]? = some (.cells #[.int .u16 H.id, .bool H.rs, .int .i64 H.op, .bool H.aa, .bool H.tc, .bool H.rd, .bool H.ra, .bool H.ad, .bool H.cd, .int .i64 H.rc, .slice Y.q.a Y.q.n Y.q.c, .slice Y.l1.a Y.l1.n Y.l1.c, .slice Y.l2.a Y.l2.n Y.l2.c, .slice Y.l3.a Y.l3.n Y.l3.c] 26) ∧ (((((w8.setCell ⟨g, k * 8, none⟩ (.slice ya yn yc)).setCell ⟨g, k * 8 + 4, none⟩ (.slice z1 q1 j1)).setCell ⟨g, k * 8 + 5, none⟩ (.slice z2 q2 j2)).setCell ⟨g, k * 8 + 6, none⟩ (.slice z3 q3 j3)).setCell ⟨g, k * 8 + 7, none⟩ (.slice z4 q4 j4)).heap[b + 1]? = some (.cells zeroM 26) ∧ S5 ≤ (((((w8.setCell ⟨g, k * 8, none⟩ (.slice ya yn yc)).setCell ⟨g, k * 8 + 4, none⟩ (.slice z1 q1 j1)).setCell ⟨g, k * 8 + 5, none⟩ (.slice z2 q2 j2)).setCell ⟨g, k * 8 + 6, none⟩ (.slice z3 q3 j3)).setCell ⟨g, k * 8 + 7, none⟩ (.slice z4 q4 j4)).heap.size ∧ (∀ i, b + 2 ≤ i → i < B5 → (((((w8.setCell ⟨g, k * 8, none⟩ (.slice ya yn yc)).setCell ⟨g, k * 8 + 4, none⟩ (.slice z1 q1 j1)).setCell ⟨g, k * 8 + 5, none⟩ (.slice z2 q2 j2)).setCell ⟨g, k * 8 + 6, none⟩ (.slice z3 q3 j3)).setCell ⟨g, k * 8 + 7, none⟩ (.slice z4 q4 j4)).heap[i]? = wo.heap[i]?) ∧ Below w.heap.size w (((((w8.setCell ⟨g, k * 8, none⟩ (.slice ya yn yc)).setCell ⟨g, k * 8 + 4, none⟩ (.slice z1 q1 j1)).setCell ⟨g, k * 8 + 5, none⟩ (.slice z2 q2 j2)).setCell ⟨g, k * 8 + 6, none⟩ (.slice z3 q3 j3)).setCell ⟨g, k * 8 + 7, none⟩ (.slice z4 q4 j4))) := by
                  have hgB : B5 ≤ g := (row_lt HP.out.2.2.1).1
                  have hSB := HSB.out
                  have hb8 := HC8.out
                  have ho := fun i hi => other5 w8 g (k * 8) (k * 8 + 4) (k * 8 + 5) (k * 8 + 6) (k * 8 + 7) (.slice ya yn yc) (.slice z1 q1 j1) (.slice z2 q2 j2) (.slice z3 q3 j3) (.slice z4 q4 j4) i hi
                  have hsz := size5 w8 g (k * 8) (k * 8 + 4) (k * 8 + 5) (k * 8 + 6) (k * 8 + 7) (.slice ya yn yc) (.slice z1 q1 j1) (.slice z2 q2 j2) (.slice z3 q3 j3) (.slice z4 q4 j4)
                  have hS := HW.out.2.2.2.1
                  refine ⟨HalfR.step (y := ⟨⟨ya, yn, yc⟩, ⟨⟨z1, q1, j1⟩, ⟨z2, q2, j2⟩, ⟨z3, q3, j3⟩, ⟨z4, q4, j4⟩⟩⟩) HP.out.1 HP.out.2.1 HP.out.2.2.1 HP.out.2.2.2.1 HP.out.2.2.2.2 hlt hgS hS (HOW.out ⟨⟨ya, yn, yc⟩, ⟨⟨z1, q1, j1⟩, ⟨z2, q2, j2⟩, ⟨z3, q3, j3⟩, ⟨z4, q4, j4⟩⟩⟩ w8 (H7.out.1.stays H8.out.2) (H8.out.1.mono H7.out.2.size)) hb8 rfl, ?_, ?_, ?_, ?_, ?_⟩
                  · rw [ho b (by omega), hb8.block b lb]; exact HW.out.2.1
                  · rw [ho (b + 1) (by omega), hb8.block _ (box_lt HW.out.2.2.1)]; exact HW.out.2.2.1
                  · rw [hsz]; exact Nat.le_trans hS hb8.size
                  · intro i i1 i2
                    rw [ho i (by omega), hb8.block i (by omega)]
                    exact HW.out.2.2.2.2.1 i i1 i2
                  · exact below5 (HBWr.out.trans (hb8.mono HBWr.out.size)) g _ _ _ _ _ _ _ _ _ _ (by have := HBW.out; omega)
                generalize (((((w8.setCell ⟨g, k * 8, none⟩ (.slice ya yn yc)).setCell ⟨g, k * 8 + 4, none⟩ (.slice z1 q1 j1)).setCell ⟨g, k * 8 + 5, none⟩ (.slice z2 q2 j2)).setCell ⟨g, k * 8 + 6, none⟩ (.slice z3 q3 j3)).setCell ⟨g, k * 8 + 7, none⟩ (.slice z4 q4 j4)) = w9 at *
                go_wp2_with fail
                exact ⟨⟨k + 1, by omega, by go_num, HEND.out⟩, by simp [intOf]; omega⟩
            · have hkk : un = k := by omega
              subst hkk
              have HOUT : Hid (∃ X : MA, wr.heap[b]? = some (.cells #[.int .u16 H.id, .bool H.rs, .int .i64 H.op, .bool H.aa, .bool H.tc, .bool H.rd, .bool H.ra, .bool H.ad, .bool H.cd, .int .i64 H.rc, .slice X.q.a X.q.n X.q.c, .slice X.l1.a X.l1.n X.l1.c, .slice X.l2.a X.l2.n X.l2.c, .slice X.l3.a X.l3.n X.l3.c] 26) ∧ wr.heap[b + 1]? = some (.cells zeroM 26) ∧ OutJ w ⟨ta, tn, tc⟩ x m (j + 1) X wr ∧ b + 2 ≤ wr.heap.size ∧ Below w.heap.size w wr) := by
                have hSB := HSB.out
                have hbw := HBW.out
                have hrow : RowC B5 S5 ⟨ua, un, uc⟩ rs wr := HW.out.1.done hSB.2.1 HG.out
                rw [HRS.out, hSB.2.2] at hrow
                have hS := HW.out.2.2.2.1
                refine ⟨Y, HW.out.2.1, HW.out.2.2.1, ?_, by omega, HW.out.2.2.2.2.2⟩
                rw [HY.out]
                exact outj_step hlt3 HX.out.2.2.1 hrow (by omega) (by omega) (fun i i1 i2 => HW.out.2.2.2.2.1 i (by omega) (by omega))
              clear HW HSB HG HRB HY HU5 HX HRS
              go_wp2_with fail
              exact ⟨⟨j + 1, by omega, by go_num, HOUT.out⟩, by simp [intOf]; omega⟩
        · have hjj : j = 3 := by omega
          subst hjj
          obtain ⟨X, hx, hz, ho, hs, hb⟩ := HK.out
          have HO : Hid (MCp w X m wo) := by
            have := ho.2.2
            rw [if_pos rfl] at this
            exact this
          obtain ⟨z0, z1, z2, z3, z4, z5, z6, z7, z8, z9, z10, z11, z12, z13⟩ := mbox_cells hx
          have hl0 := box_lt hx
          have hl1 := box_lt hz
          have HK2 := Lib.hid hz
          unfold zeroM at HK2
          have HBE := Lib.hid hb
          clear HK hx hz ho hs hb
          have f0 : wo.frozen? ⟨b + 1, 0, none⟩ = false := box_frozen HK2.out _
          have e0 := box_cell HK2.out 0 _ rfl
          have f1 : wo.frozen? ⟨b + 1, 1, none⟩ = false := box_frozen HK2.out _
          have e1 := box_cell HK2.out 1 _ rfl
          have f2 : wo.frozen? ⟨b + 1, 2, none⟩ = false := box_frozen HK2.out _
          have e2 := box_cell HK2.out 2 _ rfl
          have f3 : wo.frozen? ⟨b + 1, 3, none⟩ = false := box_frozen HK2.out _
          have e3 := box_cell HK2.out 3 _ rfl
          have f4 : wo.frozen? ⟨b + 1, 4, none⟩ = false := box_frozen HK2.out _
          have e4 := box_cell HK2.out 4 _ rfl
          have f5 : wo.frozen? ⟨b + 1, 5, none⟩ = false := box_frozen HK2.out _
          have e5 := box_cell HK2.out 5 _ rfl
          have f6 : wo.frozen? ⟨b + 1, 6, none⟩ = false := box_frozen HK2.out _
          have e6 := box_cell HK2.out 6 _ rfl
          have f7 : wo.frozen? ⟨b + 1, 7, none⟩ = false := box_frozen HK2.out _
          have e7 := box_cell HK2.out 7 _ rfl
          have f8 : wo.frozen? ⟨b + 1, 8, none⟩ = false := box_frozen HK2.out _
          have e8 := box_cell HK2.out 8 _ rfl
          have f9 : wo.frozen? ⟨b + 1, 9, none⟩ = false := box_frozen HK2.out _
          have e9 := box_cell HK2.out 9 _ rfl
          have f10 : wo.frozen? ⟨b + 1, 10, none⟩ = false := box_frozen HK2.out _
          have e10 := box_cell HK2.out 10 _ rfl
          have f11 : wo.frozen? ⟨b + 1, 11, none⟩ = false := box_frozen HK2.out _
          have e11 := box_cell HK2.out 11 _ rfl
          have f12 : wo.frozen? ⟨b + 1, 12, none⟩ = false := box_frozen HK2.out _
          have e12 := box_cell HK2.out 12 _ rfl
          have f13 : wo.frozen? ⟨b + 1, 13, none⟩ = false := box_frozen HK2.out _
          have e13 := box_cell HK2.out 13 _ rfl
          go_wp2_with fail
          have HG9 := Lib.hid (put14 HK2.out (.int .u16 H.id) (.bool H.rs) (.int .i64 H.op) (.bool H.aa) (.bool H.tc) (.bool H.rd) (.bool H.ra) (.bool H.ad) (.bool H.cd) (.int .i64 H.rc) (.slice X.q.a X.q.n X.q.c) (.slice X.l1.a X.l1.n X.l1.c) (.slice X.l2.a X.l2.n X.l2.c) (.slice X.l3.a X.l3.n X.l3.c))
          have HB9 := Lib.hid (put14_below wo (b + 1) (.int .u16 H.id) (.bool H.rs) (.int .i64 H.op) (.bool H.aa) (.bool H.tc) (.bool H.rd) (.bool H.ra) (.bool H.ad) (.bool H.cd) (.int .i64 H.rc) (.slice X.q.a X.q.n X.q.c) (.slice X.l1.a X.l1.n X.l1.c) (.slice X.l2.a X.l2.n X.l2.c) (.slice X.l3.a X.l3.n X.l3.c))
          have HO9 := Lib.hid (put14_other wo (b + 1) (.int .u16 H.id) (.bool H.rs) (.int .i64 H.op) (.bool H.aa) (.bool H.tc) (.bool H.rd) (.bool H.ra) (.bool H.ad) (.bool H.cd) (.int .i64 H.rc) (.slice X.q.a X.q.n X.q.c) (.slice X.l1.a X.l1.n X.l1.c) (.slice X.l2.a X.l2.n X.l2.c) (.slice X.l3.a X.l3.n X.l3.c))
          generalize ((((((((((((((wo.setCell ⟨b + 1, 0, none⟩ (.int .u16 H.id)).setCell ⟨b + 1, 1, none⟩ (.bool H.rs)).setCell ⟨b + 1, 2, none⟩ (.int .i64 H.op)).setCell ⟨b + 1, 3, none⟩ (.bool H.aa)).setCell ⟨b + 1, 4, none⟩ (.bool H.tc)).setCell ⟨b + 1, 5, none⟩ (.bool H.rd)).setCell ⟨b + 1, 6, none⟩ (.bool H.ra)).setCell ⟨b + 1, 7, none⟩ (.bool H.ad)).setCell ⟨b + 1, 8, none⟩ (.bool H.cd)).setCell ⟨b + 1, 9, none⟩ (.int .i64 H.rc)).setCell ⟨b + 1, 10, none⟩ (.slice X.q.a X.q.n X.q.c)).setCell ⟨b + 1, 11, none⟩ (.slice X.l1.a X.l1.n X.l1.c)).setCell ⟨b + 1, 12, none⟩ (.slice X.l2.a X.l2.n X.l2.c)).setCell ⟨b + 1, 13, none⟩ (.slice X.l3.a X.l3.n X.l3.c)) = w9 at *
          have y0 : w9.cell? ⟨b + 1, 0, none⟩ = some (.int .u16 H.id) := box_cell HG9.out 0 _ rfl
          have y1 : w9.cell? ⟨b + 1, 1, none⟩ = some (.bool H.rs) := box_cell HG9.out 1 _ rfl
          have y2 : w9.cell? ⟨b + 1, 2, none⟩ = some (.int .i64 H.op) := box_cell HG9.out 2 _ rfl
          have y3 : w9.cell? ⟨b + 1, 3, none⟩ = some (.bool H.aa) := box_cell HG9.out 3 _ rfl
          have y4 : w9.cell? ⟨b + 1, 4, none⟩ = some (.bool H.tc) := box_cell HG9.out 4 _ rfl
          have y5 : w9.cell? ⟨b + 1, 5, none⟩ = some (.bool H.rd) := box_cell HG9.out 5 _ rfl
          have y6 : w9.cell? ⟨b + 1, 6, none⟩ = some (.bool H.ra) := box_cell HG9.out 6 _ rfl
          have y7 : w9.cell? ⟨b + 1, 7, none⟩ = some (.bool H.ad) := box_cell HG9.out 7 _ rfl
          have y8 : w9.cell? ⟨b + 1, 8, none⟩ = some (.bool H.cd) := box_cell HG9.out 8 _ rfl
          have y9 : w9.cell? ⟨b + 1, 9, none⟩ = some (.int .i64 H.rc) := box_cell HG9.out 9 _ rfl
          have y10 : w9.cell? ⟨b + 1, 10, none⟩ = some (.slice X.q.a X.q.n X.q.c) := box_cell HG9.out 10 _ rfl
          have y11 : w9.cell? ⟨b + 1, 11, none⟩ = some (.slice X.l1.a X.l1.n X.l1.c) := box_cell HG9.out 11 _ rfl
          have y12 : w9.cell? ⟨b + 1, 12, none⟩ = some (.slice X.l2.a X.l2.n X.l2.c) := box_cell HG9.out 12 _ rfl
          have y13 : w9.cell? ⟨b + 1, 13, none⟩ = some (.slice X.l3.a X.l3.n X.l3.c) := box_cell HG9.out 13 _ rfl
          have lt9 := box_lt HG9.out
          have hs9 := HB9.out.size
          refine bodyPost_ret (v := .agg #[.int .u16 H.id, .bool H.rs, .int .i64 H.op, .bool H.aa, .bool H.tc, .bool H.rd, .bool H.ra, .bool H.ad, .bool H.cd, .int .i64 H.rc, .slice X.q.a X.q.n X.q.c, .slice X.l1.a X.l1.n X.l1.c, .slice X.l2.a X.l2.n X.l2.c, .slice X.l3.a X.l3.n X.l3.c]) ?_ rfl ⟨X, rfl, ?_, HBE.out.trans (HB9.out.mono (by have := HBW.out; omega))⟩
          · simp [results, Tryz.results38, go_sem, y0, y1, y2, y3, y4, y5, y6, y7, y8, y9, y10, y11, y12, y13, lt9]
          · obtain ⟨S3, S, q1, q2, q3⟩ := HO.out
            have hbw := HBW.out
            exact ⟨S3, S, q1, q2.go hs9 (fun i i1 i2 => HO9.out i (by omega)), q3.go hs9 (fun i i1 i2 => HO9.out i (by omega))⟩
end Go.Proofs.YtkjnbgekaifdfaaGreat
namespace Go.Proofs.YtkjnbgekaifdfaaGreat
open Go.ChangeShapes Go.WideShapes Go.ChangeAt Go.RowKit
set_option linter.unusedVariables false
set_option linter.unusedSimpArgs false
set_option maxRecDepth 100000 in
set_option maxHeartbeats 4000000 in
theorem fits37 (H : Hd) (x : MA) (m : Mg) (size : Int) (w : World) (hm : MRd w H x m) (hc : ChkOk m) : Calls Tryz.prog 37 #[.agg #[.int .u16 H.id, .bool H.rs, .int .i64 H.op, .bool H.aa, .bool H.tc, .bool H.rd, .bool H.ra, .bool H.ad, .bool H.cd, .int .i64 H.rc, .slice x.q.a x.q.n x.q.c, .slice x.l1.a x.l1.n x.l1.c, .slice x.l2.a x.l2.n x.l2.c, .slice x.l3.a x.l3.n x.l3.c], .int .i64 size] w fun e w' => e = .returned (.bool (fitsF m size)) ∧ Hid (Below w.heap.size w w') := by
  have hb0 := newF_below w (.cells #[.int .u16 H.id, .bool H.rs, .int .i64 H.op, .bool H.aa, .bool H.tc, .bool H.rd, .bool H.ra, .bool H.ad, .bool H.cd, .int .i64 H.rc, .slice x.q.a x.q.n x.q.c, .slice x.l1.a x.l1.n x.l1.c, .slice x.l2.a x.l2.n x.l2.c, .slice x.l3.a x.l3.n x.l3.c] 26)
  have hx0 : (w.alloc (.cells #[.int .u16 H.id, .bool H.rs, .int .i64 H.op, .bool H.aa, .bool H.tc, .bool H.rd, .bool H.ra, .bool H.ad, .bool H.cd, .int .i64 H.rc, .slice x.q.a x.q.n x.q.c, .slice x.l1.a x.l1.n x.l1.c, .slice x.l2.a x.l2.n x.l2.c, .slice x.l3.a x.l3.n x.l3.c] 26)).heap[w.heap.size]? = some (.cells #[.int .u16 H.id, .bool H.rs, .int .i64 H.op, .bool H.aa, .bool H.tc, .bool H.rd, .bool H.ra, .bool H.ad, .bool H.cd, .int .i64 H.rc, .slice x.q.a x.q.n x.q.c, .slice x.l1.a x.l1.n x.l1.c, .slice x.l2.a x.l2.n x.l2.c, .slice x.l3.a x.l3.n x.l3.c] 26) := heap_alloc_new _ _
  have KB := Lib.hid (bytes_msg H x m _ (hm.below hb0) hc.fin)
  have HB0 := Lib.hid hb0
  have HCK : Hid (chkM m = 0) := chkM_zero.2 hc
  have k0 := box_cell hx0 0 _ rfl
  have k1 := box_cell hx0 1 _ rfl
  have k2 := box_cell hx0 2 _ rfl
  have k3 := box_cell hx0 3 _ rfl
  have k4 := box_cell hx0 4 _ rfl
  have k5 := box_cell hx0 5 _ rfl
  have k6 := box_cell hx0 6 _ rfl
  have k7 := box_cell hx0 7 _ rfl
  have k8 := box_cell hx0 8 _ rfl
  have k9 := box_cell hx0 9 _ rfl
  have k10 := box_cell hx0 10 _ rfl
  have k11 := box_cell hx0 11 _ rfl
  have k12 := box_cell hx0 12 _ rfl
  have k13 := box_cell hx0 13 _ rfl
  have lb0 := box_lt hx0
  clear hm hc hb0 hx0
  go_enter Tryz.func37, Tryz.ntmps37
  go_wp2_with fail
  refine KB.out.mono ?_
  rintro e w1 ⟨⟨sa, sn, sc⟩, er, rfl, H1⟩
  have hR := H1.out.1
  unfold ByR at hR
  rw [if_pos HCK.out] at hR
  have HE : Hid (Below w.heap.size w w1) := HB0.out.trans (H1.out.2.mono HB0.out.size)
  clear k0 k1 k2 k3 k4 k5 k6 k7 k8 k9 k10 k11 k12 k13 lb0 KB H1
  cases hp : prun (pmsg m) (some ([], [])) with
  | none =>
    have HFF : Hid (fitsF m size = false) := by show _ = _; unfold fitsF; rw [hp]
    rw [hp] at hR
    obtain ⟨rfl, hs⟩ := hR
    injection hs with h1 h2 h3
    subst h1; subst h2; subst h3
    clear hp
    simp only
    go_wp2
    go_ret
    exact ⟨by rw [HFF.out]; rfl, HE.out⟩
  | some z =>
    have HFF : Hid (fitsF m size = decide ((z.1.length : Int) ≤ size)) := by show _ = _; unfold fitsF; rw [hp]
    rw [hp] at hR
    obtain ⟨rfl, hs⟩ := hR
    have hl := hs.len
    have HL : Hid (z.1.length = sn) := hl
    clear hp hl hs
    by_cases hle : (sn : Int) ≤ size
    · simp only
      go_wp2
      go_ret
      exact ⟨by rw [HFF.out, HL.out]; simp [hle], HE.out⟩
    · simp only
      have hgt : size < (sn : Int) := by omega
      go_wp2
      go_ret
      exact ⟨by rw [HFF.out, HL.out]; simp [hle], HE.out⟩
theorem ix110_0 (b : Nat) (w : World) : (Instr.index 110 (.agg #[.pointer (some ⟨b, 11, none⟩), .pointer (some ⟨b, 12, none⟩)]) (.int .i64 0)).run Tryz.prog w = .ok (.pointer (some ⟨b, 11, none⟩)) w := by kernel_rfl
theorem ix110_1 (b : Nat) (w : World) : (Instr.index 110 (.agg #[.pointer (some ⟨b, 11, none⟩), .pointer (some ⟨b, 12, none⟩)]) (.int .i64 1)).run Tryz.prog w = .ok (.pointer (some ⟨b, 12, none⟩)) w := by kernel_rfl
theorem ix110 (b k : Nat) (hk : k < 2) (w : World) : (Instr.index 110 (.agg #[.pointer (some ⟨b, 11, none⟩), .pointer (some ⟨b, 12, none⟩)]) (.int .i64 (k : Int))).run Tryz.prog w = .ok (.pointer (some ⟨b, 11 + k, none⟩)) w := by
  have : k = 0 ∨ k = 1 := by omega
  rcases this with rfl | rfl
  · exact ix110_0 b w
  · exact ix110_1 b w
end Go.Proofs.YtkjnbgekaifdfaaGreat
namespace Go.Proofs.YtkjnbgekaifdfaaGreat
open Go.ChangeShapes Go.WideShapes Go.ChangeAt Go.RowKit
set_option linter.unusedVariables false
set_option linter.unusedSimpArgs false
def headF (m : Mg) (H : Hd) (k : Nat) : Hd := { H with tc := H.tc || decide (k < m.l1.length + m.l2.length) }
theorem firstM_h (m : Mg) (k : Nat) : (firstM m k).h = headF m m.h k := rfl
theorem remN2 (x : MA) (k : Nat) : remN x k 2 = k - x.l1.n - x.l2.n := by
  show (k - min k x.l1.n) - min (k - min k x.l1.n) x.l2.n = _
  omega
set_option maxRecDepth 100000 in
set_option maxHeartbeats 8000000 in
theorem first39 (H : Hd) (x : MA) (m : Mg) (k : Nat) (w : World) (hm : MRd w H x m) (hc : ChkOk m) (hk : k ≤ totF m) : Calls Tryz.prog 39 #[.agg #[.int .u16 H.id, .bool H.rs, .int .i64 H.op, .bool H.aa, .bool H.tc, .bool H.rd, .bool H.ra, .bool H.ad, .bool H.cd, .int .i64 H.rc, .slice x.q.a x.q.n x.q.c, .slice x.l1.a x.l1.n x.l1.c, .slice x.l2.a x.l2.n x.l2.c, .slice x.l3.a x.l3.n x.l3.c], .int .i64 (k : Int)] w fun e w' => ∃ Y : MA, e = .returned (.agg #[.int .u16 (headF m H k).id, .bool (headF m H k).rs, .int .i64 (headF m H k).op, .bool (headF m H k).aa, .bool (headF m H k).tc, .bool (headF m H k).rd, .bool (headF m H k).ra, .bool (headF m H k).ad, .bool (headF m H k).cd, .int .i64 (headF m H k).rc, .slice Y.q.a Y.q.n Y.q.c, .slice Y.l1.a Y.l1.n Y.l1.c, .slice Y.l2.a Y.l2.n Y.l2.c, .slice Y.l3.a Y.l3.n Y.l3.c]) ∧ Hid (MRd w' (headF m H k) Y (firstM m k) ∧ Below w.heap.size w w') := by
  have hf := two_new H x w
  have HF := Lib.hid hf
  unfold zeroM at HF
  have htot := hc.nr
  unfold tot at htot
  have e1 := hm.l1.len
  have e2 := hm.l2.len
  have e3 := hm.l3.len
  have hol := (others_len m.l3).1
  unfold totF at hk
  have hc1 := hm.l1.cap
  have hc2 := hm.l2.cap
  have hc3 := hm.l3.cap
  have K67 := Lib.hid (fun W (hW : Below w.heap.size w W) => beside67 x.l3 m.l3 (k - x.l1.n - x.l2.n) w W hm.l3 hW (by omega) (by omega))
  have HM := Lib.hid hm
  have HCAP : Hid (∀ j, j < 2 → (nth3 x j).n ≤ (nth3 x j).c ∧ (nth3 x j).n ≤ 1000000 ∧ (nth3 x j).c ≤ 9223372036854775807) := fun j hj => by
    have : j = 0 ∨ j = 1 := by omega
    rcases this with rfl | rfl
    · exact ⟨hc1.1, by show x.l1.n ≤ _; omega, hc1.2⟩
    · exact ⟨hc2.1, by show x.l2.n ≤ _; omega, hc2.2⟩
  have hk1 : k ≤ 1000 := by omega
  obtain ⟨T, hT⟩ : ∃ T, T = (H.tc || decide (k < x.l1.n + x.l2.n)) := ⟨_, rfl⟩
  have hGT : headF m H k = { H with tc := T } := by unfold headF; rw [e1, e2, hT]
  have HFN : Hid (∀ Y w', LRd w' Y (besideF m.l3 (k - x.l1.n - x.l2.n)) → Below w.heap.size w w' → MRd w' (headF m H k) ⟨x.q, ⟨x.l1.a, min k x.l1.n, x.l1.c⟩, ⟨x.l2.a, min (remN x k 1) x.l2.n, x.l2.c⟩, Y⟩ (firstM m k)) := fun Y w' hY hb => by
    have hr1 : remN x k 1 = k - x.l1.n := by show k - min k x.l1.n = _; omega
    refine ⟨?_, hm.q.below hb, (hm.l1.take k _ rfl).below hb, ?_, ?_, hm.b.first k⟩
    · rw [firstM_h, hm.h]
    · show LRd w' ⟨x.l2.a, min (remN x k 1) x.l2.n, x.l2.c⟩ (m.l2.take (k - m.l1.length))
      rw [hr1, e1]
      exact (hm.l2.take (k - x.l1.n) _ rfl).below hb
    · show LRd w' Y (besideF m.l3 (k - m.l1.length - m.l2.length))
      rw [e1, e2]
      exact hY
  rw [hGT] at HFN ⊢
  have HFT := Lib.hid (two_new { H with tc := T } x w)
  unfold zeroM at HFT
  have hwr : wrap64 ((x.l1.n : Int) + (x.l2.n : Int)) = ((x.l1.n + x.l2.n : Nat) : Int) := by rw [Int.natCast_add]; unfold wrap64; omega
  have HTT := Lib.hid hT
  clear hf hm hc hol e1 e2 e3 htot hc1 hc2 hc3 hk hGT hT
  have k4 := box_cell HF.out.2.1 4 _ rfl
  have k11 := box_cell HF.out.2.1 11 _ rfl
  have k12 := box_cell HF.out.2.1 12 _ rfl
  have lb0 := box_lt HF.out.2.1
  have f4 := box_frozen HF.out.2.1 4
  go_enter Tryz.func39, Tryz.ntmps39
  go_wp2_with fail
  · have htc : H.tc = true := by assumption
    obtain rfl : T = true := by rw [HTT.out, htc]; rfl
    have HF0 := Lib.hid (show Below w.heap.size w ((w.alloc (.cells #[.int .u16 H.id, .bool H.rs, .int .i64 H.op, .bool H.aa, .bool true, .bool H.rd, .bool H.ra, .bool H.ad, .bool H.cd, .int .i64 H.rc, .slice x.q.a x.q.n x.q.c, .slice x.l1.a x.l1.n x.l1.c, .slice x.l2.a x.l2.n x.l2.c, .slice x.l3.a x.l3.n x.l3.c] 26)).alloc (.cells #[.int .u16 0, .bool false, .int .i64 0, .bool false, .bool false, .bool false, .bool false, .bool false, .bool false, .int .i64 0, .slice none 0 0, .slice none 0 0, .slice none 0 0, .slice none 0 0] 26)) ∧ ((w.alloc (.cells #[.int .u16 H.id, .bool H.rs, .int .i64 H.op, .bool H.aa, .bool true, .bool H.rd, .bool H.ra, .bool H.ad, .bool H.cd, .int .i64 H.rc, .slice x.q.a x.q.n x.q.c, .slice x.l1.a x.l1.n x.l1.c, .slice x.l2.a x.l2.n x.l2.c, .slice x.l3.a x.l3.n x.l3.c] 26)).alloc (.cells #[.int .u16 0, .bool false, .int .i64 0, .bool false, .bool false, .bool false, .bool false, .bool false, .bool false, .int .i64 0, .slice none 0 0, .slice none 0 0, .slice none 0 0, .slice none 0 0] 26)).heap[w.heap.size]? = some (.cells #[.int .u16 H.id, .bool H.rs, .int .i64 H.op, .bool H.aa, .bool true, .bool H.rd, .bool H.ra, .bool H.ad, .bool H.cd, .int .i64 H.rc, .slice x.q.a x.q.n x.q.c, .slice x.l1.a x.l1.n x.l1.c, .slice x.l2.a x.l2.n x.l2.c, .slice x.l3.a x.l3.n x.l3.c] 26) ∧ ((w.alloc (.cells #[.int .u16 H.id, .bool H.rs, .int .i64 H.op, .bool H.aa, .bool true, .bool H.rd, .bool H.ra, .bool H.ad, .bool H.cd, .int .i64 H.rc, .slice x.q.a x.q.n x.q.c, .slice x.l1.a x.l1.n x.l1.c, .slice x.l2.a x.l2.n x.l2.c, .slice x.l3.a x.l3.n x.l3.c] 26)).alloc (.cells #[.int .u16 0, .bool false, .int .i64 0, .bool false, .bool false, .bool false, .bool false, .bool false, .bool false, .int .i64 0, .slice none 0 0, .slice none 0 0, .slice none 0 0, .slice none 0 0] 26)).heap[w.heap.size + 1]? = some (.cells #[.int .u16 0, .bool false, .int .i64 0, .bool false, .bool false, .bool false, .bool false, .bool false, .bool false, .int .i64 0, .slice none 0 0, .slice none 0 0, .slice none 0 0, .slice none 0 0] 26) from ⟨HFT.out.1, HFT.out.2.1, HFT.out.2.2.1⟩)
    clear HFT HF k4 k11 k12 lb0 f4
    generalize ((w.alloc (.cells #[.int .u16 H.id, .bool H.rs, .int .i64 H.op, .bool H.aa, .bool true, .bool H.rd, .bool H.ra, .bool H.ad, .bool H.cd, .int .i64 H.rc, .slice x.q.a x.q.n x.q.c, .slice x.l1.a x.l1.n x.l1.c, .slice x.l2.a x.l2.n x.l2.c, .slice x.l3.a x.l3.n x.l3.c] 26)).alloc (.cells #[.int .u16 0, .bool false, .int .i64 0, .bool false, .bool false, .bool false, .bool false, .bool false, .bool false, .int .i64 0, .slice none 0 0, .slice none 0 0, .slice none 0 0, .slice none 0 0] 26)) = Z at *
    obtain ⟨b, hbb⟩ : ∃ b, b = w.heap.size := ⟨_, rfl⟩
    have HBW := Lib.hid hbb
    have HB0 : Hid (Z.heap[b]? = some (.cells #[.int .u16 H.id, .bool H.rs, .int .i64 H.op, .bool H.aa, .bool true, .bool H.rd, .bool H.ra, .bool H.ad, .bool H.cd, .int .i64 H.rc, .slice (cutJ x k 0).q.a (cutJ x k 0).q.n (cutJ x k 0).q.c, .slice (cutJ x k 0).l1.a (cutJ x k 0).l1.n (cutJ x k 0).l1.c, .slice (cutJ x k 0).l2.a (cutJ x k 0).l2.n (cutJ x k 0).l2.c, .slice (cutJ x k 0).l3.a (cutJ x k 0).l3.n (cutJ x k 0).l3.c] 26) ∧ Z.heap[b + 1]? = some (.cells zeroM 26) ∧ Below w.heap.size w Z) := by rw [hbb]; exact ⟨HF0.out.2.1, HF0.out.2.2, HF0.out.1⟩
    rw [← hbb]
    clear HF0 hbb
    go_loopw [1, 25] (fun y z wr => ∃ j : Nat, j ≤ 2 ∧ y = .int .i64 (remN x k j : Nat) ∧ z = .int .i64 j ∧ Hid (wr.heap[b]? = some (.cells #[.int .u16 H.id, .bool H.rs, .int .i64 H.op, .bool H.aa, .bool true, .bool H.rd, .bool H.ra, .bool H.ad, .bool H.cd, .int .i64 H.rc, .slice (cutJ x k j).q.a (cutJ x k j).q.n (cutJ x k j).q.c, .slice (cutJ x k j).l1.a (cutJ x k j).l1.n (cutJ x k j).l1.c, .slice (cutJ x k j).l2.a (cutJ x k j).l2.n (cutJ x k j).l2.c, .slice (cutJ x k j).l3.a (cutJ x k j).l3.n (cutJ x k j).l3.c] 26) ∧ wr.heap[b + 1]? = some (.cells zeroM 26) ∧ Below w.heap.size w wr)) (fun _ z _ => 2 - (intOf z).toNat)
    case atStart => exact ⟨0, by omega, rfl, rfl, HB0.out⟩
    case round =>
      obtain ⟨j, hj, rfl, rfl, HK⟩ := hrel
      clear HB0
      by_cases hlt3 : j < 2
      · have h3 : (j : Int) < 2 := by omega
        have hix := ix110 b j hlt3
        have hcl := mbox_list (H := { H with tc := true }) (x := cutJ x k j) HK.out.1 j (by omega)
        rw [cutJ_nth x k j (by omega)] at hcl
        have hlb := box_lt HK.out.1
        have hfz : wr.frozen? ⟨b, 11 + j, none⟩ = false := box_frozen HK.out.1 _
        have HST := Lib.hid (cutJ_step { H with tc := true } x k j (by omega))
        have HRM : Hid (remN x k (j + 1) = remN x k j - min (remN x k j) (nth3 x j).n) := rfl
        have hrm := remN_le x k j
        obtain ⟨hc1, hc2, hc3⟩ := HCAP.out j hlt3
        generalize nth3 x j = s at *
        generalize hR : remN x k j = R at *
        have HEND : Hid (∀ M : Nat, M = min R s.n → (wr.setCell ⟨b, 11 + j, none⟩ (.slice s.a M s.c)).heap[b]? = some (.cells #[.int .u16 H.id, .bool H.rs, .int .i64 H.op, .bool H.aa, .bool true, .bool H.rd, .bool H.ra, .bool H.ad, .bool H.cd, .int .i64 H.rc, .slice (cutJ x k (j + 1)).q.a (cutJ x k (j + 1)).q.n (cutJ x k (j + 1)).q.c, .slice (cutJ x k (j + 1)).l1.a (cutJ x k (j + 1)).l1.n (cutJ x k (j + 1)).l1.c, .slice (cutJ x k (j + 1)).l2.a (cutJ x k (j + 1)).l2.n (cutJ x k (j + 1)).l2.c, .slice (cutJ x k (j + 1)).l3.a (cutJ x k (j + 1)).l3.n (cutJ x k (j + 1)).l3.c] 26) ∧ (wr.setCell ⟨b, 11 + j, none⟩ (.slice s.a M s.c)).heap[b + 1]? = some (.cells zeroM 26) ∧ Below w.heap.size w (wr.setCell ⟨b, 11 + j, none⟩ (.slice s.a M s.c))) := by
          intro M hM
          have hgr := grown_set wr b (11 + j) (.slice s.a M s.c)
          refine ⟨?_, (hgr.block (b + 1) (box_lt HK.out.2.1) (by simp)).trans HK.out.2.1, HK.out.2.2.setCell (by have := HBW.out; simp only; omega) _⟩
          have hst := HST.out
          simp only at hst
          rw [← hst, hM]
          exact box_set HK.out.1 _ _
        clear HST
        have hmx : (min R s.n : Nat) ≤ s.n := by omega
        go_wp2
        refine ⟨⟨j + 1, by omega, ?_, by go_num, HEND.out _ ?_⟩, by simp [intOf]; omega⟩
        · rw [HRM.out]
          congr 1
          split <;> omega
        · split <;> omega
      · have hjj : j = 2 := by omega
        subst hjj
        have hr2 : remN x k 2 = k - x.l1.n - x.l2.n := remN2 x k
        rw [hr2]
        obtain ⟨X, hX⟩ : ∃ X : MA, X = cutJ x k 2 := ⟨_, rfl⟩
        have HX3 : Hid (X.l3 = x.l3 ∧ X.q = x.q ∧ X.l1 = ⟨x.l1.a, min k x.l1.n, x.l1.c⟩ ∧ X.l2 = ⟨x.l2.a, min (remN x k 1) x.l2.n, x.l2.c⟩) := by rw [hX]; exact ⟨rfl, rfl, rfl, rfl⟩
        rw [← hX] at HK
        have hx := HK.out.1
        have k13 : wr.cell? ⟨b, 13, none⟩ = some (.slice x.l3.a x.l3.n x.l3.c) := by have := box_cell hx 13 _ rfl; rw [HX3.out.1] at this; exact this
        have lb := box_lt hx
        have KA := Lib.hid (K67.out wr HK.out.2.2)
        obtain ⟨N, hN⟩ : ∃ N, N = k - x.l1.n - x.l2.n := ⟨_, rfl⟩
        rw [← hN] at KA HFN ⊢
        clear hX hx hN hr2
        go_wp2_with fail
        refine KA.out.mono ?_
        rintro e w5 ⟨⟨ta, tn, tc'⟩, rfl, H5⟩
        simp only at H5 ⊢
        have hx5 : w5.heap[b]? = some (.cells #[.int .u16 H.id, .bool H.rs, .int .i64 H.op, .bool H.aa, .bool true, .bool H.rd, .bool H.ra, .bool H.ad, .bool H.cd, .int .i64 H.rc, .slice X.q.a X.q.n X.q.c, .slice X.l1.a X.l1.n X.l1.c, .slice X.l2.a X.l2.n X.l2.c, .slice X.l3.a X.l3.n X.l3.c] 26) := (H5.out.2.block b lb).trans HK.out.1
        have e13 : w5.cell? ⟨b, 13, none⟩ = some (.slice x.l3.a x.l3.n x.l3.c) := (H5.out.2.cell (p := ⟨b, 13, none⟩) lb).trans k13
        have f13 : w5.frozen? ⟨b, 13, none⟩ = false := box_frozen hx5 _
        have lb5 := box_lt hx5
        have hz5 : w5.heap[b + 1]? = some (.cells #[.int .u16 0, .bool false, .int .i64 0, .bool false, .bool false, .bool false, .bool false, .bool false, .bool false, .int .i64 0, .slice none 0 0, .slice none 0 0, .slice none 0 0, .slice none 0 0] 26) := (H5.out.2.block _ (box_lt HK.out.2.1)).trans HK.out.2.1
        obtain ⟨Y, hY⟩ : ∃ Y : MA, Y = ⟨X.q, X.l1, X.l2, ⟨ta, tn, tc'⟩⟩ := ⟨_, rfl⟩
        have HY := Lib.hid hY
        have HX6 : Hid ((w5.setCell ⟨b, 13, none⟩ (.slice ta tn tc')).heap[b]? = some (.cells #[.int .u16 H.id, .bool H.rs, .int .i64 H.op, .bool H.aa, .bool true, .bool H.rd, .bool H.ra, .bool H.ad, .bool H.cd, .int .i64 H.rc, .slice Y.q.a Y.q.n Y.q.c, .slice Y.l1.a Y.l1.n Y.l1.c, .slice Y.l2.a Y.l2.n Y.l2.c, .slice Y.l3.a Y.l3.n Y.l3.c] 26)) := by rw [hY]; exact box_set hx5 13 _
        have HO6 : Hid (∀ i, i ≠ b → (w5.setCell ⟨b, 13, none⟩ (.slice ta tn tc')).heap[i]? = w5.heap[i]?) := fun i hi => Below.heap_setCell _ _ _ _ hi
        have HS6 : Hid ((w5.setCell ⟨b, 13, none⟩ (.slice ta tn tc')).heap.size = w5.heap.size) := by show _ = _; simp [World.setCell]
        have HBE6 : Hid (Below w.heap.size w (w5.setCell ⟨b, 13, none⟩ (.slice ta tn tc'))) := (HK.out.2.2.trans (H5.out.2.mono HK.out.2.2.size)).setCell (p := ⟨b, 13, none⟩) (by have := HBW.out; simp only; omega) _
        have HZ6 : Hid ((w5.setCell ⟨b, 13, none⟩ (.slice ta tn tc')).heap[b + 1]? = some (.cells #[.int .u16 0, .bool false, .int .i64 0, .bool false, .bool false, .bool false, .bool false, .bool false, .bool false, .int .i64 0, .slice none 0 0, .slice none 0 0, .slice none 0 0, .slice none 0 0] 26)) := (HO6.out _ (by omega)).trans hz5
        have HL5 : Hid (FarR w wr w5 ⟨ta, tn, tc'⟩ (besideF m.l3 N) ∧ b + 2 ≤ wr.heap.size) := ⟨H5.out.1, box_lt HK.out.2.1⟩
        have HBB5 := Lib.hid (HK.out.2.2.trans (H5.out.2.mono HK.out.2.2.size))
        clear k13 lb hx5 hz5 hY KA HK H5
        go_upto_region 10 with fail
        generalize w5.setCell ⟨b, 13, none⟩ (.slice ta tn tc') = w4 at *
        clear e13 f13 lb5
        have e0 := box_cell HX6.out 0 _ rfl
        have e1 := box_cell HX6.out 1 _ rfl
        have e2 := box_cell HX6.out 2 _ rfl
        have e3 := box_cell HX6.out 3 _ rfl
        have e4 := box_cell HX6.out 4 _ rfl
        have e5 := box_cell HX6.out 5 _ rfl
        have e6 := box_cell HX6.out 6 _ rfl
        have e7 := box_cell HX6.out 7 _ rfl
        have e8 := box_cell HX6.out 8 _ rfl
        have e9 := box_cell HX6.out 9 _ rfl
        have e10 := box_cell HX6.out 10 _ rfl
        have e11 := box_cell HX6.out 11 _ rfl
        have e12 := box_cell HX6.out 12 _ rfl
        have e13 := box_cell HX6.out 13 _ rfl
        have f0 : w4.frozen? ⟨b + 1, 0, none⟩ = false := box_frozen HZ6.out _
        have f1 : w4.frozen? ⟨b + 1, 1, none⟩ = false := box_frozen HZ6.out _
        have f2 : w4.frozen? ⟨b + 1, 2, none⟩ = false := box_frozen HZ6.out _
        have f3 : w4.frozen? ⟨b + 1, 3, none⟩ = false := box_frozen HZ6.out _
        have f4 : w4.frozen? ⟨b + 1, 4, none⟩ = false := box_frozen HZ6.out _
        have f5 : w4.frozen? ⟨b + 1, 5, none⟩ = false := box_frozen HZ6.out _
        have f6 : w4.frozen? ⟨b + 1, 6, none⟩ = false := box_frozen HZ6.out _
        have f7 : w4.frozen? ⟨b + 1, 7, none⟩ = false := box_frozen HZ6.out _
        have f8 : w4.frozen? ⟨b + 1, 8, none⟩ = false := box_frozen HZ6.out _
        have f9 : w4.frozen? ⟨b + 1, 9, none⟩ = false := box_frozen HZ6.out _
        have f10 : w4.frozen? ⟨b + 1, 10, none⟩ = false := box_frozen HZ6.out _
        have f11 : w4.frozen? ⟨b + 1, 11, none⟩ = false := box_frozen HZ6.out _
        have f12 : w4.frozen? ⟨b + 1, 12, none⟩ = false := box_frozen HZ6.out _
        have f13 : w4.frozen? ⟨b + 1, 13, none⟩ = false := box_frozen HZ6.out _
        have d0 := box_cell HZ6.out 0 _ rfl
        have d1 := box_cell HZ6.out 1 _ rfl
        have d2 := box_cell HZ6.out 2 _ rfl
        have d3 := box_cell HZ6.out 3 _ rfl
        have d4 := box_cell HZ6.out 4 _ rfl
        have d5 := box_cell HZ6.out 5 _ rfl
        have d6 := box_cell HZ6.out 6 _ rfl
        have d7 := box_cell HZ6.out 7 _ rfl
        have d8 := box_cell HZ6.out 8 _ rfl
        have d9 := box_cell HZ6.out 9 _ rfl
        have d10 := box_cell HZ6.out 10 _ rfl
        have d11 := box_cell HZ6.out 11 _ rfl
        have d12 := box_cell HZ6.out 12 _ rfl
        have d13 := box_cell HZ6.out 13 _ rfl
        have l4 := box_lt HX6.out
        have l5 := box_lt HZ6.out
        have HG9 := Lib.hid (put14 HZ6.out (.int .u16 H.id) (.bool H.rs) (.int .i64 H.op) (.bool H.aa) (.bool true) (.bool H.rd) (.bool H.ra) (.bool H.ad) (.bool H.cd) (.int .i64 H.rc) (.slice Y.q.a Y.q.n Y.q.c) (.slice Y.l1.a Y.l1.n Y.l1.c) (.slice Y.l2.a Y.l2.n Y.l2.c) (.slice Y.l3.a Y.l3.n Y.l3.c))
        have HB9 := Lib.hid (put14_below w4 (b + 1) (.int .u16 H.id) (.bool H.rs) (.int .i64 H.op) (.bool H.aa) (.bool true) (.bool H.rd) (.bool H.ra) (.bool H.ad) (.bool H.cd) (.int .i64 H.rc) (.slice Y.q.a Y.q.n Y.q.c) (.slice Y.l1.a Y.l1.n Y.l1.c) (.slice Y.l2.a Y.l2.n Y.l2.c) (.slice Y.l3.a Y.l3.n Y.l3.c))
        have HO9 := Lib.hid (put14_other w4 (b + 1) (.int .u16 H.id) (.bool H.rs) (.int .i64 H.op) (.bool H.aa) (.bool true) (.bool H.rd) (.bool H.ra) (.bool H.ad) (.bool H.cd) (.int .i64 H.rc) (.slice Y.q.a Y.q.n Y.q.c) (.slice Y.l1.a Y.l1.n Y.l1.c) (.slice Y.l2.a Y.l2.n Y.l2.c) (.slice Y.l3.a Y.l3.n Y.l3.c))
        have HW9 : Hid (∀ W, Below w.heap.size w W → (∀ i, i ≠ b → i ≠ b + 1 → W.heap[i]? = w5.heap[i]?) → w5.heap.size ≤ W.heap.size → MRd W { H with tc := true } Y (firstM m k)) := fun W hW hO hS => by
          have hq := HX3.out
          rw [HY.out, hq.2.1, hq.2.2.1, hq.2.2.2]
          exact HFN.out _ W (HL5.out.1 W hW hS fun i i1 i2 => hO i (by have := HL5.out.2; omega) (by have := HL5.out.2; omega)) hW
        go_wp2_with fail
        generalize ((((((((((((((w4.setCell ⟨b + 1, 0, none⟩ (.int .u16 H.id)).setCell ⟨b + 1, 1, none⟩ (.bool H.rs)).setCell ⟨b + 1, 2, none⟩ (.int .i64 H.op)).setCell ⟨b + 1, 3, none⟩ (.bool H.aa)).setCell ⟨b + 1, 4, none⟩ (.bool true)).setCell ⟨b + 1, 5, none⟩ (.bool H.rd)).setCell ⟨b + 1, 6, none⟩ (.bool H.ra)).setCell ⟨b + 1, 7, none⟩ (.bool H.ad)).setCell ⟨b + 1, 8, none⟩ (.bool H.cd)).setCell ⟨b + 1, 9, none⟩ (.int .i64 H.rc)).setCell ⟨b + 1, 10, none⟩ (.slice Y.q.a Y.q.n Y.q.c)).setCell ⟨b + 1, 11, none⟩ (.slice Y.l1.a Y.l1.n Y.l1.c)).setCell ⟨b + 1, 12, none⟩ (.slice Y.l2.a Y.l2.n Y.l2.c)).setCell ⟨b + 1, 13, none⟩ (.slice Y.l3.a Y.l3.n Y.l3.c)) = w9 at *
        have y0 : w9.cell? ⟨b + 1, 0, none⟩ = some (.int .u16 H.id) := box_cell HG9.out 0 _ rfl
        have y1 : w9.cell? ⟨b + 1, 1, none⟩ = some (.bool H.rs) := box_cell HG9.out 1 _ rfl
        have y2 : w9.cell? ⟨b + 1, 2, none⟩ = some (.int .i64 H.op) := box_cell HG9.out 2 _ rfl
        have y3 : w9.cell? ⟨b + 1, 3, none⟩ = some (.bool H.aa) := box_cell HG9.out 3 _ rfl
        have y4 : w9.cell? ⟨b + 1, 4, none⟩ = some (.bool true) := box_cell HG9.out 4 _ rfl
        have y5 : w9.cell? ⟨b + 1, 5, none⟩ = some (.bool H.rd) := box_cell HG9.out 5 _ rfl
        have y6 : w9.cell? ⟨b + 1, 6, none⟩ = some (.bool H.ra) := box_cell HG9.out 6 _ rfl
        have y7 : w9.cell? ⟨b + 1, 7, none⟩ = some (.bool H.ad) := box_cell HG9.out 7 _ rfl
        have y8 : w9.cell? ⟨b + 1, 8, none⟩ = some (.bool H.cd) := box_cell HG9.out 8 _ rfl
        have y9 : w9.cell? ⟨b + 1, 9, none⟩ = some (.int .i64 H.rc) := box_cell HG9.out 9 _ rfl
        have y10 : w9.cell? ⟨b + 1, 10, none⟩ = some (.slice Y.q.a Y.q.n Y.q.c) := box_cell HG9.out 10 _ rfl
        have y11 : w9.cell? ⟨b + 1, 11, none⟩ = some (.slice Y.l1.a Y.l1.n Y.l1.c) := box_cell HG9.out 11 _ rfl
        have y12 : w9.cell? ⟨b + 1, 12, none⟩ = some (.slice Y.l2.a Y.l2.n Y.l2.c) := box_cell HG9.out 12 _ rfl
        have y13 : w9.cell? ⟨b + 1, 13, none⟩ = some (.slice Y.l3.a Y.l3.n Y.l3.c) := box_cell HG9.out 13 _ rfl
        have lt9 := box_lt HG9.out
        have hbe9 := HBE6.out.trans (HB9.out.mono (by have := HBW.out; omega))
        refine bodyPost_ret (v := .agg #[.int .u16 H.id, .bool H.rs, .int .i64 H.op, .bool H.aa, .bool true, .bool H.rd, .bool H.ra, .bool H.ad, .bool H.cd, .int .i64 H.rc, .slice Y.q.a Y.q.n Y.q.c, .slice Y.l1.a Y.l1.n Y.l1.c, .slice Y.l2.a Y.l2.n Y.l2.c, .slice Y.l3.a Y.l3.n Y.l3.c]) ?_ rfl ⟨Y, rfl, ?_, hbe9⟩
        · simp [results, Tryz.results39, go_sem, y0, y1, y2, y3, y4, y5, y6, y7, y8, y9, y10, y11, y12, y13, lt9]
        · exact HW9.out w9 hbe9 (fun i i1 i2 => (HO9.out i i2).trans (HO6.out i i1)) (by have h1 := HS6.out; have h2 := HB9.out.size; omega)
  · have htc : ¬ H.tc = true := by assumption
    have hd : decide ((k : Int) < (x.l1.n : Int) + (x.l2.n : Int)) = T := by
      rw [HTT.out]
      have : H.tc = false := by simpa using htc
      rw [this, Bool.false_or]
      by_cases h : k < x.l1.n + x.l2.n
      · rw [decide_eq_true h, decide_eq_true (by omega)]
      · rw [decide_eq_false h, decide_eq_false (by omega)]
    rw [hd]
    clear hd htc
    have HF0 := Lib.hid (show Below w.heap.size w ((w.alloc (.cells #[.int .u16 H.id, .bool H.rs, .int .i64 H.op, .bool H.aa, .bool T, .bool H.rd, .bool H.ra, .bool H.ad, .bool H.cd, .int .i64 H.rc, .slice x.q.a x.q.n x.q.c, .slice x.l1.a x.l1.n x.l1.c, .slice x.l2.a x.l2.n x.l2.c, .slice x.l3.a x.l3.n x.l3.c] 26)).alloc (.cells #[.int .u16 0, .bool false, .int .i64 0, .bool false, .bool false, .bool false, .bool false, .bool false, .bool false, .int .i64 0, .slice none 0 0, .slice none 0 0, .slice none 0 0, .slice none 0 0] 26)) ∧ ((w.alloc (.cells #[.int .u16 H.id, .bool H.rs, .int .i64 H.op, .bool H.aa, .bool T, .bool H.rd, .bool H.ra, .bool H.ad, .bool H.cd, .int .i64 H.rc, .slice x.q.a x.q.n x.q.c, .slice x.l1.a x.l1.n x.l1.c, .slice x.l2.a x.l2.n x.l2.c, .slice x.l3.a x.l3.n x.l3.c] 26)).alloc (.cells #[.int .u16 0, .bool false, .int .i64 0, .bool false, .bool false, .bool false, .bool false, .bool false, .bool false, .int .i64 0, .slice none 0 0, .slice none 0 0, .slice none 0 0, .slice none 0 0] 26)).heap[w.heap.size]? = some (.cells #[.int .u16 H.id, .bool H.rs, .int .i64 H.op, .bool H.aa, .bool T, .bool H.rd, .bool H.ra, .bool H.ad, .bool H.cd, .int .i64 H.rc, .slice x.q.a x.q.n x.q.c, .slice x.l1.a x.l1.n x.l1.c, .slice x.l2.a x.l2.n x.l2.c, .slice x.l3.a x.l3.n x.l3.c] 26) ∧ ((w.alloc (.cells #[.int .u16 H.id, .bool H.rs, .int .i64 H.op, .bool H.aa, .bool T, .bool H.rd, .bool H.ra, .bool H.ad, .bool H.cd, .int .i64 H.rc, .slice x.q.a x.q.n x.q.c, .slice x.l1.a x.l1.n x.l1.c, .slice x.l2.a x.l2.n x.l2.c, .slice x.l3.a x.l3.n x.l3.c] 26)).alloc (.cells #[.int .u16 0, .bool false, .int .i64 0, .bool false, .bool false, .bool false, .bool false, .bool false, .bool false, .int .i64 0, .slice none 0 0, .slice none 0 0, .slice none 0 0, .slice none 0 0] 26)).heap[w.heap.size + 1]? = some (.cells #[.int .u16 0, .bool false, .int .i64 0, .bool false, .bool false, .bool false, .bool false, .bool false, .bool false, .int .i64 0, .slice none 0 0, .slice none 0 0, .slice none 0 0, .slice none 0 0] 26) from ⟨HFT.out.1, HFT.out.2.1, HFT.out.2.2.1⟩)
    clear HFT HF k4 k11 k12 lb0 f4
    generalize ((w.alloc (.cells #[.int .u16 H.id, .bool H.rs, .int .i64 H.op, .bool H.aa, .bool T, .bool H.rd, .bool H.ra, .bool H.ad, .bool H.cd, .int .i64 H.rc, .slice x.q.a x.q.n x.q.c, .slice x.l1.a x.l1.n x.l1.c, .slice x.l2.a x.l2.n x.l2.c, .slice x.l3.a x.l3.n x.l3.c] 26)).alloc (.cells #[.int .u16 0, .bool false, .int .i64 0, .bool false, .bool false, .bool false, .bool false, .bool false, .bool false, .int .i64 0, .slice none 0 0, .slice none 0 0, .slice none 0 0, .slice none 0 0] 26)) = Z at *
    obtain ⟨b, hbb⟩ : ∃ b, b = w.heap.size := ⟨_, rfl⟩
    have HBW := Lib.hid hbb
    have HB0 : Hid (Z.heap[b]? = some (.cells #[.int .u16 H.id, .bool H.rs, .int .i64 H.op, .bool H.aa, .bool T, .bool H.rd, .bool H.ra, .bool H.ad, .bool H.cd, .int .i64 H.rc, .slice (cutJ x k 0).q.a (cutJ x k 0).q.n (cutJ x k 0).q.c, .slice (cutJ x k 0).l1.a (cutJ x k 0).l1.n (cutJ x k 0).l1.c, .slice (cutJ x k 0).l2.a (cutJ x k 0).l2.n (cutJ x k 0).l2.c, .slice (cutJ x k 0).l3.a (cutJ x k 0).l3.n (cutJ x k 0).l3.c] 26) ∧ Z.heap[b + 1]? = some (.cells zeroM 26) ∧ Below w.heap.size w Z) := by rw [hbb]; exact ⟨HF0.out.2.1, HF0.out.2.2, HF0.out.1⟩
    rw [← hbb]
    clear HF0 hbb
    go_loopw [1, 25] (fun y z wr => ∃ j : Nat, j ≤ 2 ∧ y = .int .i64 (remN x k j : Nat) ∧ z = .int .i64 j ∧ Hid (wr.heap[b]? = some (.cells #[.int .u16 H.id, .bool H.rs, .int .i64 H.op, .bool H.aa, .bool T, .bool H.rd, .bool H.ra, .bool H.ad, .bool H.cd, .int .i64 H.rc, .slice (cutJ x k j).q.a (cutJ x k j).q.n (cutJ x k j).q.c, .slice (cutJ x k j).l1.a (cutJ x k j).l1.n (cutJ x k j).l1.c, .slice (cutJ x k j).l2.a (cutJ x k j).l2.n (cutJ x k j).l2.c, .slice (cutJ x k j).l3.a (cutJ x k j).l3.n (cutJ x k j).l3.c] 26) ∧ wr.heap[b + 1]? = some (.cells zeroM 26) ∧ Below w.heap.size w wr)) (fun _ z _ => 2 - (intOf z).toNat)
    case atStart => exact ⟨0, by omega, rfl, rfl, HB0.out⟩
    case round =>
      obtain ⟨j, hj, rfl, rfl, HK⟩ := hrel
      clear HB0
      by_cases hlt3 : j < 2
      · have h3 : (j : Int) < 2 := by omega
        have hix := ix110 b j hlt3
        have hcl := mbox_list (H := { H with tc := T }) (x := cutJ x k j) HK.out.1 j (by omega)
        rw [cutJ_nth x k j (by omega)] at hcl
        have hlb := box_lt HK.out.1
        have hfz : wr.frozen? ⟨b, 11 + j, none⟩ = false := box_frozen HK.out.1 _
        have HST := Lib.hid (cutJ_step { H with tc := T } x k j (by omega))
        have HRM : Hid (remN x k (j + 1) = remN x k j - min (remN x k j) (nth3 x j).n) := rfl
        have hrm := remN_le x k j
        obtain ⟨hc1, hc2, hc3⟩ := HCAP.out j hlt3
        generalize nth3 x j = s at *
        generalize hR : remN x k j = R at *
        have HEND : Hid (∀ M : Nat, M = min R s.n → (wr.setCell ⟨b, 11 + j, none⟩ (.slice s.a M s.c)).heap[b]? = some (.cells #[.int .u16 H.id, .bool H.rs, .int .i64 H.op, .bool H.aa, .bool T, .bool H.rd, .bool H.ra, .bool H.ad, .bool H.cd, .int .i64 H.rc, .slice (cutJ x k (j + 1)).q.a (cutJ x k (j + 1)).q.n (cutJ x k (j + 1)).q.c, .slice (cutJ x k (j + 1)).l1.a (cutJ x k (j + 1)).l1.n (cutJ x k (j + 1)).l1.c, .slice (cutJ x k (j + 1)).l2.a (cutJ x k (j + 1)).l2.n (cutJ x k (j + 1)).l2.c, .slice (cutJ x k (j + 1)).l3.a (cutJ x k (j + 1)).l3.n (cutJ x k (j + 1)).l3.c] 26) ∧ (wr.setCell ⟨b, 11 + j, none⟩ (.slice s.a M s.c)).heap[b + 1]? = some (.cells zeroM 26) ∧ Below w.heap.size w (wr.setCell ⟨b, 11 + j, none⟩ (.slice s.a M s.c))) := by
          intro M hM
          have hgr := grown_set wr b (11 + j) (.slice s.a M s.c)
          refine ⟨?_, (hgr.block (b + 1) (box_lt HK.out.2.1) (by simp)).trans HK.out.2.1, HK.out.2.2.setCell (by have := HBW.out; simp only; omega) _⟩
          have hst := HST.out
          simp only at hst
          rw [← hst, hM]
          exact box_set HK.out.1 _ _
        clear HST
        have hmx : (min R s.n : Nat) ≤ s.n := by omega
        go_wp2
        refine ⟨⟨j + 1, by omega, ?_, by go_num, HEND.out _ ?_⟩, by simp [intOf]; omega⟩
        · rw [HRM.out]
          congr 1
          split <;> omega
        · split <;> omega
      · have hjj : j = 2 := by omega
        subst hjj
        have hr2 : remN x k 2 = k - x.l1.n - x.l2.n := remN2 x k
        rw [hr2]
        obtain ⟨X, hX⟩ : ∃ X : MA, X = cutJ x k 2 := ⟨_, rfl⟩
        have HX3 : Hid (X.l3 = x.l3 ∧ X.q = x.q ∧ X.l1 = ⟨x.l1.a, min k x.l1.n, x.l1.c⟩ ∧ X.l2 = ⟨x.l2.a, min (remN x k 1) x.l2.n, x.l2.c⟩) := by rw [hX]; exact ⟨rfl, rfl, rfl, rfl⟩
        rw [← hX] at HK
        have hx := HK.out.1
        have k13 : wr.cell? ⟨b, 13, none⟩ = some (.slice x.l3.a x.l3.n x.l3.c) := by have := box_cell hx 13 _ rfl; rw [HX3.out.1] at this; exact this
        have lb := box_lt hx
        have KA := Lib.hid (K67.out wr HK.out.2.2)
        obtain ⟨N, hN⟩ : ∃ N, N = k - x.l1.n - x.l2.n := ⟨_, rfl⟩
        rw [← hN] at KA HFN ⊢
        clear hX hx hN hr2
        go_wp2_with fail
        refine KA.out.mono ?_
        rintro e w5 ⟨⟨ta, tn, tc'⟩, rfl, H5⟩
        simp only at H5 ⊢
        have hx5 : w5.heap[b]? = some (.cells #[.int .u16 H.id, .bool H.rs, .int .i64 H.op, .bool H.aa, .bool T, .bool H.rd, .bool H.ra, .bool H.ad, .bool H.cd, .int .i64 H.rc, .slice X.q.a X.q.n X.q.c, .slice X.l1.a X.l1.n X.l1.c, .slice X.l2.a X.l2.n X.l2.c, .slice X.l3.a X.l3.n X.l3.c] 26) := (H5.out.2.block b lb).trans HK.out.1
        have e13 : w5.cell? ⟨b, 13, none⟩ = some (.slice x.l3.a x.l3.n x.l3.c) := (H5.out.2.cell (p := ⟨b, 13, none⟩) lb).trans k13
        have f13 : w5.frozen? ⟨b, 13, none⟩ = false := box_frozen hx5 _
        have lb5 := box_lt hx5
        have hz5 : w5.heap[b + 1]? = some (.cells #[.int .u16 0, .bool false, .int .i64 0, .bool false, .bool false, .bool false, .bool false, .bool false, .bool false, .int .i64 0, .slice none 0 0, .slice none 0 0, .slice none 0 0, .slice none 0 0] 26) := (H5.out.2.block _ (box_lt HK.out.2.1)).trans HK.out.2.1
        obtain ⟨Y, hY⟩ : ∃ Y : MA, Y = ⟨X.q, X.l1, X.l2, ⟨ta, tn, tc'⟩⟩ := ⟨_, rfl⟩
        have HY := Lib.hid hY
        have HX6 : Hid ((w5.setCell ⟨b, 13, none⟩ (.slice ta tn tc')).heap[b]? = some (.cells #[.int .u16 H.id, .bool H.rs, .int .i64 H.op, .bool H.aa, .bool T, .bool H.rd, .bool H.ra, .bool H.ad, .bool H.cd, .int .i64 H.rc, .slice Y.q.a Y.q.n Y.q.c, .slice Y.l1.a Y.l1.n Y.l1.c, .slice Y.l2.a Y.l2.n Y.l2.c, .slice Y.l3.a Y.l3.n Y.l3.c] 26)) := by rw [hY]; exact box_set hx5 13 _
        have HO6 : Hid (∀ i, i ≠ b → (w5.setCell ⟨b, 13, none⟩ (.slice ta tn tc')).heap[i]? = w5.heap[i]?) := fun i hi => Below.heap_setCell _ _ _ _ hi
        have HS6 : Hid ((w5.setCell ⟨b, 13, none⟩ (.slice ta tn tc')).heap.size = w5.heap.size) := by show _ = _; simp [World.setCell]
        have HBE6 : Hid (Below w.heap.size w (w5.setCell ⟨b, 13, none⟩ (.slice ta tn tc'))) := (HK.out.2.2.trans (H5.out.2.mono HK.out.2.2.size)).setCell (p := ⟨b, 13, none⟩) (by have := HBW.out; simp only; omega) _
        have HZ6 : Hid ((w5.setCell ⟨b, 13, none⟩ (.slice ta tn tc')).heap[b + 1]? = some (.cells #[.int .u16 0, .bool false, .int .i64 0, .bool false, .bool false, .bool false, .bool false, .bool false, .bool false, .int .i64 0, .slice none 0 0, .slice none 0 0, .slice none 0 0, .slice none 0 0] 26)) := (HO6.out _ (by omega)).trans hz5
        have HL5 : Hid (FarR w wr w5 ⟨ta, tn, tc'⟩ (besideF m.l3 N) ∧ b + 2 ≤ wr.heap.size) := ⟨H5.out.1, box_lt HK.out.2.1⟩
        have HBB5 := Lib.hid (HK.out.2.2.trans (H5.out.2.mono HK.out.2.2.size))
        clear k13 lb hx5 hz5 hY KA HK H5
        go_upto_region 10 with fail
        generalize w5.setCell ⟨b, 13, none⟩ (.slice ta tn tc') = w4 at *
        clear e13 f13 lb5
        have e0 := box_cell HX6.out 0 _ rfl
        have e1 := box_cell HX6.out 1 _ rfl
        have e2 := box_cell HX6.out 2 _ rfl
        have e3 := box_cell HX6.out 3 _ rfl
        have e4 := box_cell HX6.out 4 _ rfl
        have e5 := box_cell HX6.out 5 _ rfl
        have e6 := box_cell HX6.out 6 _ rfl
        have e7 := box_cell HX6.out 7 _ rfl
        have e8 := box_cell HX6.out 8 _ rfl
        have e9 := box_cell HX6.out 9 _ rfl
        have e10 := box_cell HX6.out 10 _ rfl
        have e11 := box_cell HX6.out 11 _ rfl
        have e12 := box_cell HX6.out 12 _ rfl
        have e13 := box_cell HX6.out 13 _ rfl
        have f0 : w4.frozen? ⟨b + 1, 0, none⟩ = false := box_frozen HZ6.out _
        have f1 : w4.frozen? ⟨b + 1, 1, none⟩ = false := box_frozen HZ6.out _
        have f2 : w4.frozen? ⟨b + 1, 2, none⟩ = false := box_frozen HZ6.out _
        have f3 : w4.frozen? ⟨b + 1, 3, none⟩ = false := box_frozen HZ6.out _
        have f4 : w4.frozen? ⟨b + 1, 4, none⟩ = false := box_frozen HZ6.out _
        have f5 : w4.frozen? ⟨b + 1, 5, none⟩ = false := box_frozen HZ6.out _
        have f6 : w4.frozen? ⟨b + 1, 6, none⟩ = false := box_frozen HZ6.out _
        have f7 : w4.frozen? ⟨b + 1, 7, none⟩ = false := box_frozen HZ6.out _
        have f8 : w4.frozen? ⟨b + 1, 8, none⟩ = false := box_frozen HZ6.out _
        have f9 : w4.frozen? ⟨b + 1, 9, none⟩ = false := box_frozen HZ6.out _
        have f10 : w4.frozen? ⟨b + 1, 10, none⟩ = false := box_frozen HZ6.out _
        have f11 : w4.frozen? ⟨b + 1, 11, none⟩ = false := box_frozen HZ6.out _
        have f12 : w4.frozen? ⟨b + 1, 12, none⟩ = false := box_frozen HZ6.out _
        have f13 : w4.frozen? ⟨b + 1, 13, none⟩ = false := box_frozen HZ6.out _
        have d0 := box_cell HZ6.out 0 _ rfl
        have d1 := box_cell HZ6.out 1 _ rfl
        have d2 := box_cell HZ6.out 2 _ rfl
        have d3 := box_cell HZ6.out 3 _ rfl
        have d4 := box_cell HZ6.out 4 _ rfl
        have d5 := box_cell HZ6.out 5 _ rfl
        have d6 := box_cell HZ6.out 6 _ rfl
        have d7 := box_cell HZ6.out 7 _ rfl
        have d8 := box_cell HZ6.out 8 _ rfl
        have d9 := box_cell HZ6.out 9 _ rfl
        have d10 := box_cell HZ6.out 10 _ rfl
        have d11 := box_cell HZ6.out 11 _ rfl
        have d12 := box_cell HZ6.out 12 _ rfl
        have d13 := box_cell HZ6.out 13 _ rfl
        have l4 := box_lt HX6.out
        have l5 := box_lt HZ6.out
        have HG9 := Lib.hid (put14 HZ6.out (.int .u16 H.id) (.bool H.rs) (.int .i64 H.op) (.bool H.aa) (.bool T) (.bool H.rd) (.bool H.ra) (.bool H.ad) (.bool H.cd) (.int .i64 H.rc) (.slice Y.q.a Y.q.n Y.q.c) (.slice Y.l1.a Y.l1.n Y.l1.c) (.slice Y.l2.a Y.l2.n Y.l2.c) (.slice Y.l3.a Y.l3.n Y.l3.c))
        have HB9 := Lib.hid (put14_below w4 (b + 1) (.int .u16 H.id) (.bool H.rs) (.int .i64 H.op) (.bool H.aa) (.bool T) (.bool H.rd) (.bool H.ra) (.bool H.ad) (.bool H.cd) (.int .i64 H.rc) (.slice Y.q.a Y.q.n Y.q.c) (.slice Y.l1.a Y.l1.n Y.l1.c) (.slice Y.l2.a Y.l2.n Y.l2.c) (.slice Y.l3.a Y.l3.n Y.l3.c))
        have HO9 := Lib.hid (put14_other w4 (b + 1) (.int .u16 H.id) (.bool H.rs) (.int .i64 H.op) (.bool H.aa) (.bool T) (.bool H.rd) (.bool H.ra) (.bool H.ad) (.bool H.cd) (.int .i64 H.rc) (.slice Y.q.a Y.q.n Y.q.c) (.slice Y.l1.a Y.l1.n Y.l1.c) (.slice Y.l2.a Y.l2.n Y.l2.c) (.slice Y.l3.a Y.l3.n Y.l3.c))
        have HW9 : Hid (∀ W, Below w.heap.size w W → (∀ i, i ≠ b → i ≠ b + 1 → W.heap[i]? = w5.heap[i]?) → w5.heap.size ≤ W.heap.size → MRd W { H with tc := T } Y (firstM m k)) := fun W hW hO hS => by
          have hq := HX3.out
          rw [HY.out, hq.2.1, hq.2.2.1, hq.2.2.2]
          exact HFN.out _ W (HL5.out.1 W hW hS fun i i1 i2 => hO i (by have := HL5.out.2; omega) (by have := HL5.out.2; omega)) hW
        go_wp2_with fail
        generalize ((((((((((((((w4.setCell ⟨b + 1, 0, none⟩ (.int .u16 H.id)).setCell ⟨b + 1, 1, none⟩ (.bool H.rs)).setCell ⟨b + 1, 2, none⟩ (.int .i64 H.op)).setCell ⟨b + 1, 3, none⟩ (.bool H.aa)).setCell ⟨b + 1, 4, none⟩ (.bool T)).setCell ⟨b + 1, 5, none⟩ (.bool H.rd)).setCell ⟨b + 1, 6, none⟩ (.bool H.ra)).setCell ⟨b + 1, 7, none⟩ (.bool H.ad)).setCell ⟨b + 1, 8, none⟩ (.bool H.cd)).setCell ⟨b + 1, 9, none⟩ (.int .i64 H.rc)).setCell ⟨b + 1, 10, none⟩ (.slice Y.q.a Y.q.n Y.q.c)).setCell ⟨b + 1, 11, none⟩ (.slice Y.l1.a Y.l1.n Y.l1.c)).setCell ⟨b + 1, 12, none⟩ (.slice Y.l2.a Y.l2.n Y.l2.c)).setCell ⟨b + 1, 13, none⟩ (.slice Y.l3.a Y.l3.n Y.l3.c)) = w9 at *
        have y0 : w9.cell? ⟨b + 1, 0, none⟩ = some (.int .u16 H.id) := box_cell HG9.out 0 _ rfl
        have y1 : w9.cell? ⟨b + 1, 1, none⟩ = some (.bool H.rs) := box_cell HG9.out 1 _ rfl
        have y2 : w9.cell? ⟨b + 1, 2, none⟩ = some (.int .i64 H.op) := box_cell HG9.out 2 _ rfl
        have y3 : w9.cell? ⟨b + 1, 3, none⟩ = some (.bool H.aa) := box_cell HG9.out 3 _ rfl
        have y4 : w9.cell? ⟨b + 1, 4, none⟩ = some (.bool T) := box_cell HG9.out 4 _ rfl
        have y5 : w9.cell? ⟨b + 1, 5, none⟩ = some (.bool H.rd) := box_cell HG9.out 5 _ rfl
        have y6 : w9.cell? ⟨b + 1, 6, none⟩ = some (.bool H.ra) := box_cell HG9.out 6 _ rfl
        have y7 : w9.cell? ⟨b + 1, 7, none⟩ = some (.bool H.ad) := box_cell HG9.out 7 _ rfl
        have y8 : w9.cell? ⟨b + 1, 8, none⟩ = some (.bool H.cd) := box_cell HG9.out 8 _ rfl
        have y9 : w9.cell? ⟨b + 1, 9, none⟩ = some (.int .i64 H.rc) := box_cell HG9.out 9 _ rfl
        have y10 : w9.cell? ⟨b + 1, 10, none⟩ = some (.slice Y.q.a Y.q.n Y.q.c) := box_cell HG9.out 10 _ rfl
        have y11 : w9.cell? ⟨b + 1, 11, none⟩ = some (.slice Y.l1.a Y.l1.n Y.l1.c) := box_cell HG9.out 11 _ rfl
        have y12 : w9.cell? ⟨b + 1, 12, none⟩ = some (.slice Y.l2.a Y.l2.n Y.l2.c) := box_cell HG9.out 12 _ rfl
        have y13 : w9.cell? ⟨b + 1, 13, none⟩ = some (.slice Y.l3.a Y.l3.n Y.l3.c) := box_cell HG9.out 13 _ rfl
        have lt9 := box_lt HG9.out
        have hbe9 := HBE6.out.trans (HB9.out.mono (by have := HBW.out; omega))
        refine bodyPost_ret (v := .agg #[.int .u16 H.id, .bool H.rs, .int .i64 H.op, .bool H.aa, .bool T, .bool H.rd, .bool H.ra, .bool H.ad, .bool H.cd, .int .i64 H.rc, .slice Y.q.a Y.q.n Y.q.c, .slice Y.l1.a Y.l1.n Y.l1.c, .slice Y.l2.a Y.l2.n Y.l2.c, .slice Y.l3.a Y.l3.n Y.l3.c]) ?_ rfl ⟨Y, rfl, ?_, hbe9⟩
        · simp [results, Tryz.results39, go_sem, y0, y1, y2, y3, y4, y5, y6, y7, y8, y9, y10, y11, y12, y13, lt9]
        · exact HW9.out w9 hbe9 (fun i i1 i2 => (HO9.out i i2).trans (HO6.out i i1)) (by have h1 := HS6.out; have h2 := HB9.out.size; omega)
end Go.Proofs.YtkjnbgekaifdfaaGreat
namespace Go.Proofs.YtkjnbgekaifdfaaGreat
open Go.ChangeShapes Go.WideShapes Go.ChangeAt Go.RowKit Go.Shelf
set_option linter.unusedVariables false
set_option linter.unusedSimpArgs false
attribute [local go_sem] Oper.semAt_some
/-- What the iterator hands out: a place and its label. -/
abbrev Lab := { x : Int × ByteArray // x.2.size ≤ 1000000000000 }
theorem getD_size (l : List ByteArray) (h : ∀ s ∈ l, s.size ≤ 1000000000000) (j : Nat) : (l[j]?.getD ⟨#[]⟩).size ≤ 1000000000000 := by
  by_cases hj : j < l.length
  · rw [List.getElem?_eq_getElem hj]; exact h _ (List.getElem_mem hj)
  · rw [List.getElem?_eq_none (by omega)]; exact Nat.zero_le _
def bk (ss : List ByteArray) (h : ∀ s ∈ ss.reverse, s.size ≤ 1000000000000) (j : Nat) : Lab := ⟨((ss.length : Int) - 1 - j, ss.reverse[j]?.getD ⟨#[]⟩), getD_size _ h j⟩
def bup (ss : List ByteArray) (h : ∀ s ∈ ss.reverse, s.size ≤ 1000000000000) (k : Nat) : List Lab := (List.range k).map (bk ss h)
theorem bup_succ (ss : List ByteArray) (h : ∀ s ∈ ss.reverse, s.size ≤ 1000000000000) (k : Nat) : bup ss h (k + 1) = bup ss h k ++ [bk ss h k] := by simp [bup, List.range_succ]
theorem bup_len (ss : List ByteArray) (h : ∀ s ∈ ss.reverse, s.size ≤ 1000000000000) (k : Nat) : (bup ss h k).length = k := by simp [bup]
def labsOf (l : List Lab) : List ByteArray := l.map (fun x => x.1.2)
theorem labsOf_bup (ss : List ByteArray) (h : ∀ s ∈ ss.reverse, s.size ≤ 1000000000000) (k : Nat) (hk : k ≤ ss.length) : labsOf (bup ss h k) = ss.reverse.take k := by
  apply List.ext_getElem
  · simp [labsOf, bup]; omega
  · intro i h1 h2
    have : i < ss.length := by simp at h2; omega
    simp [labsOf, bup, bk, this]
/-- What a round must keep for the iterator: what lay, and the iterator's own box. -/
def KpB (n₀ Bs : Nat) (A B : World) : Prop := Below n₀ A B ∧ ∀ v, Boxed A Bs 51 v → Boxed B Bs 51 v
theorem kpB_t {n₀ Bs : Nat} {A B C : World} (h : KpB n₀ Bs A B) (k : KpB n₀ Bs B C) : KpB n₀ Bs A C := ⟨h.1.trans k.1, fun v hv => k.2 v (h.2 v hv)⟩
theorem kpB_b {n₀ Bs : Nat} {w : World} (hn : n₀ ≤ w.heap.size) (W : World) (l : Nat) (o o' : Obj) (hl : w.heap.size ≤ l) (h : W.heap[l]? = some o) (hc : o.isCells = false) (hw : o.isWalk = false) : KpB n₀ Bs W (W.putObj l o') :=
  ⟨belowK_b hn W l o o' hl h hc hw, fun v hv => hv.kept (grownBy_putObj' W l o') (fun e => by cases e; rw [show W.heap[Bs]? = _ from hv] at h; cases h; cases hc)⟩
set_option maxRecDepth 100000 in
theorem back_any (a : Option Addr) (len cap : Nat) (w : World) : Calls Tryz.prog 146 #[.slice a len cap] w fun e w' => e = .returned (.func (.func 156) #[] #[.pointer (some ⟨w.heap.size, 0, none⟩)]) ∧ w' = w.alloc (.cells #[.slice a len cap] 51) := by
  go_enter Tryz.func146, Tryz.ntmps146
  go_wp2
  go_ret
  exact ⟨rfl, rfl⟩
set_option maxRecDepth 100000 in
set_option maxHeartbeats 2000000 in
theorem back1_in (F : Fence) (n : Nat) (h83 : F.fn 156) (hro : F.round = none) (hn : 1 ≤ n) (l Bs n₀ : Nat) (a : Option Addr) (len cap : Nat) (ss : List ByteArray) (hs : ∀ s ∈ ss.reverse, s.size ≤ 1000000000000) (hlen : ss.length = len) (hl63 : len ≤ 1000000000000) (w : World) (hw0 : n₀ = w.heap.size) (hR : RdT w a ss) (J Jx : List Lab → World → Prop)
    (hY : ∀ pre x W, J pre W → pre.length < len → YieldAt F (n - 1) Tryz.prog l #[.int .i64 x.1.1, .string x.1.2] W fun e W' =>
      (e = .returned (.bool true) ∧ J (pre ++ [x]) W' ∧ KpB n₀ Bs W W') ∨ (e = .returned (.bool false) ∧ Jx (pre ++ [x]) W'))
    (W : World) (hWb : Below n₀ w W) (hBs : Boxed W Bs 51 (.slice a len cap)) (h0 : J [] W) :
    CallsIn F n Tryz.prog 156 #[.func (.yield l) #[] #[], .pointer (some ⟨Bs, 0, none⟩)] W fun e W' => (∃ v, e = .returned v) ∧
      ((∃ ys, ys = bup ss hs len ∧ J ys W') ∨ (∃ pre, (∃ k, k ≤ len ∧ pre = bup ss hs k) ∧ Jx pre W')) := by
  have hc0 := hBs.cell
  have HR : Hid (RdT w a ss) := hR
  clear hR
  refine callsIn_of_wp Tryz.func156 rfl h83 ?_ hro
  simp only [Tryz.ntmps156, List.size_toArray, List.length_cons, List.length_nil, Nat.reduceAdd, Nat.reduceSub, Array.replicate_succ, Array.replicate_zero, List.push_toArray, List.append_toArray, List.nil_append, List.cons_append]
  gi_wp2
  gi_loopw [3] (fun i wr => ∃ (k : Nat) (d : Int), k ≤ len ∧ Hid (d = (len : Int) - 1 - (k : Int)) ∧ i = .int .i64 d ∧ J (bup ss hs k) wr ∧ KpB n₀ Bs W wr)
    (fun i _ => (intOf i + 1).toNat)
  case atStart => exact ⟨0, (len : Int) - 1, Nat.zero_le _, (show _ = _ by simp), by go_num, h0, Below.refl _ _, fun _ h => h⟩
  case round =>
    obtain ⟨k, d, hk, HD, rfl, hJs, hnx⟩ := hrel
    have hd := HD.out
    by_cases hlt : k < len
    · obtain ⟨j, rfl⟩ : ∃ j : Nat, d = (j : Int) := ⟨d.toNat, by omega⟩
      have hj : j < ss.length := by omega
      have hjn : (j : Int) < (len : Int) := by omega
      have hj0 : (0 : Int) ≤ (j : Int) := by omega
      have e : bk ss hs k = ⟨((j : Int), ss[j]), hs _ (by simp)⟩ := by
        apply Subtype.ext
        have hrev : ss.reverse[k]?.getD ⟨#[]⟩ = ss[j] := by
          rw [List.getElem?_eq_getElem (by simp; omega)]
          simp only [Option.getD_some, List.getElem_reverse]
          congr 1
          omega
        simp only [bk, hrev]
        congr 1
        omega
      obtain ⟨b, o, rfl, hb, hc'⟩ := (HR.out.below (by rw [← hw0]; exact hWb.trans hnx.1)).at j hj
      have hcB := (hnx.2 _ hBs).cell
      have hup' := bup_succ ss hs k
      rw [e] at hup'
      have hex : ∃ s, ∃ hsz : s.size ≤ 1000000000000, bup ss hs (k + 1) = bup ss hs k ++ [(⟨((j : Int), s), hsz⟩ : Lab)] ∧ wr.cell? ⟨b, o + j, none⟩ = some (.string s) := ⟨ss[j], hs _ (by simp), hup', hc'⟩
      clear e hup' hc'
      obtain ⟨s, hsz, hup, hc⟩ := hex
      obtain ⟨fn, tmps, assign, body, hy, hRd⟩ := hY _ ⟨((j : Int), s), hsz⟩ wr hJs (by rw [bup_len]; exact hlt)
      dsimp only at hy
      clear hd
      gi_wp2
      refine hRd.mono ?_
      rintro e W3 (⟨rfl, hJ3, hk3⟩ | ⟨rfl, hJx3⟩)
      · gi_wp2
        go_roundw
        case rel => exact ⟨k + 1, (j : Int) - 1, by omega, (show _ = _ by have := HD.out; omega), by go_num, by rw [hup]; exact hJ3, kpB_t hnx hk3⟩
        case measure => simp [intOf]
      · gi_wp2
        refine bodyPost_ret (results_none rfl _ _ _) rfl ?_
        exact ⟨⟨_, rfl⟩, .inr ⟨_, ⟨k + 1, by omega, hup.symm⟩, hJx3⟩⟩
    · obtain rfl : k = len := by omega
      obtain rfl : d = -1 := by omega
      gi_wp2
      go_end0
      exact ⟨⟨_, rfl⟩, .inl ⟨_, rfl, hJs⟩⟩
theorem back_stops (F : Fence) (n : Nat) (h83 : F.fn 156) (hro : F.round = none) (hn : 1 ≤ n) (Bs : Nat) (a : Option Addr) (len cap : Nat) (ss : List ByteArray) (hs : ∀ s ∈ ss.reverse, s.size ≤ 1000000000000) (hlen : ss.length = len) (hl63 : len ≤ 1000000000000) (w w0 : World) (hR : RdT w a ss) (hw : Below w.heap.size w w0) (hBs : Boxed w0 Bs 51 (.slice a len cap)) :
    SeqStopsK F n Tryz.prog 156 #[.pointer (some ⟨Bs, 0, none⟩)] (fun x : Lab => #[Value.int .i64 x.1.1, .string x.1.2]) (KpB w.heap.size Bs) (fun ys => ys = bup ss hs len) (fun pre => ∃ k, k ≤ len ∧ pre = bup ss hs k) len w0 := fun l J Jx W hW _ _ hY h0 =>
  back1_in F n h83 hro hn l Bs w.heap.size a len cap ss hs hlen hl63 w rfl hR J Jx hY W (hw.trans (hW.mono hw.size)) ((hW.block Bs hBs.lt).trans hBs) h0
end Go.Proofs.YtkjnbgekaifdfaaGreat
