/- Texts laid together: Ka Rw. -/
import Derived.Test.YtdeoembjfdbbkaaPrk
import Derived.Deep.CutBlock
/- What writes over data: all stays but their own lists. -/
namespace Go.Proofs.Ytdeoembjfdbbkaa
open Go.ChangeShapes Go.WideShapes Go.ChangeAt Go.RowKit
set_option linter.unusedVariables false
set_option linter.unusedSimpArgs false

set_option maxRecDepth 100000 in
set_option maxHeartbeats 1000000 in
theorem overT_big (g n c : Nat) (ss : List ByteArray) (w : World) (hb : BlkV w g 9 (tv ss)) (hl : ss.length = c) (hn : n ≤ c) (hm : c ≤ maxLen) (hz : ∀ s ∈ ss, s.size ≤ 2000000000000) :
    Calls Try.prog 51 #[.slice (some ⟨g, 0, none⟩) n c] w fun e w' => e = .returned (.tuple #[]) ∧ Hid (BlkV w' g 9 (tv (ss.map bang)) ∧ w.grownBy w' (some g) ∧ w'.heap.size = w.heap.size) := by
  have HB : Hid (BlkV w g 9 (tv ss)) := hb
  have HL : Hid (ss.length = c) := hl
  clear hb hl
  unfold maxLen at hm
  go_enter Try.func51, Try.ntmps51
  go_wp2
  go_loopw [3] (fun i wr => ∃ k : Nat, k ≤ c ∧ i = .int .i64 k ∧ Hid (BlkV wr g 9 (tv (overT ss k)) ∧ w.grownBy wr (some g) ∧ wr.heap.size = w.heap.size)) (fun i _ => c - (intOf i).toNat)
  case atStart => exact ⟨0, by omega, rfl, by simpa [overT] using HB.out, World.grownBy.refl _ _, rfl⟩
  case round =>
    obtain ⟨k, hk, rfl, HW⟩ := hrel
    by_cases hlt : k < c
    · have hks : k < ss.length := by rw [HL.out]; exact hlt
      have hc := HW.out.1.cell k (by rw [tv_len, overT_len]; exact hks)
      have hat := overT_at ss k hks
      rw [List.getElem?_eq_getElem (by rw [tv_len, overT_len]; exact hks)] at hat
      rw [Option.some.inj hat] at hc
      have hf := HW.out.1.frozen k
      have h1 : (k : Int) < (c : Int) := by omega
      have HS : Hid (BlkV (wr.setCell ⟨g, k, none⟩ (.string (bang ss[k]))) g 9 (tv (overT ss (k + 1)))) := by
        have := HW.out.1.stored k (.string (bang ss[k]))
        rw [overT_step ss k hks] at this
        exact this
      clear hat
      have hsk : ss[k].size ≤ 2000000000000 := hz _ (List.getElem_mem hks)
      generalize ss[k] = s at *
      go_wp2
      refine ⟨⟨k + 1, by omega, by go_num, HS.out, ?_, ?_⟩, by simp [intOf]; omega⟩
      · obtain ⟨_, hG, hz⟩ := HW.out
        exact ⟨hG.os, hG.tape, hG.output, by rw [← hz]; simp [World.setCell], fun j hj hne => (Below.heap_setCell _ _ _ j (fun e => hne (by rw [e]))).trans (hG.block j hj hne)⟩
      · rw [← HW.out.2.2]; simp [World.setCell]
    · obtain rfl : k = c := by omega
      go_wp2
      go_end0
      have h := HW.out
      have e : overT ss k = ss.map bang := by
        unfold overT
        rw [List.take_of_length_le (by rw [HL.out]; exact Nat.le_refl _), List.drop_eq_nil_of_le (by rw [HL.out]; exact Nat.le_refl _), List.append_nil]
      rw [e] at h
      exact ⟨rfl, h⟩
set_option maxRecDepth 100000 in
set_option maxHeartbeats 400000 in
theorem overT_nil (w : World) : Calls Try.prog 51 #[.slice none 0 0] w fun e w' => e = .returned (.tuple #[]) ∧ w' = w := by
  go_enter Try.func51, Try.ntmps51
  go_wp2
  go_loopw [3] (fun i wr => wr = w ∧ i = .int .i64 0) (fun _ _ => 0)
  case atStart => exact ⟨rfl, rfl⟩
  case round =>
    obtain ⟨hwr, rfl⟩ := hrel
    subst hwr
    go_wp2
    go_end0
    exact ⟨rfl, rfl⟩
theorem bang_size (s : ByteArray) : (bang s).size = s.size + 1 := by
  show (s ++ _ : ByteArray).size = _
  rw [ByteArray.size_append]
  rfl
/-- Texts' blocks from B up to C may be written over, up to k times; nothing else. -/
structure Ov9 (B C k : Nat) (W1 W : World) : Prop where
  os : W.os = W1.os
  tape : W.tape = W1.tape
  output : W.output = W1.output
  size : W.heap.size = W1.heap.size
  out : ∀ j, j < W1.heap.size → (j < B ∨ C ≤ j) → W.heap[j]? = W1.heap[j]?
  ins : ∀ j ys, BlkV W1 j 9 (tv ys) → (∀ s ∈ ys, s.size ≤ 1000000000000) → ∃ ys', BlkV W j 9 (tv ys') ∧ ys'.length = ys.length ∧ ∀ s ∈ ys', s.size ≤ 1000000000000 + k
theorem Ov9.refl (B C : Nat) (W : World) : Ov9 B C 0 W W := ⟨rfl, rfl, rfl, rfl, fun _ _ _ => rfl, fun j ys h1 h2 => ⟨ys, h1, rfl, fun s hs => h2 s hs⟩⟩
theorem blk_vals {w : World} {g : Nat} {ys zs : List ByteArray} (h1 : BlkV w g 9 (tv ys)) (h2 : BlkV w g 9 (tv zs)) : zs = ys := by
  have a1 : w.heap[g]? = some (.cells (tv ys).toArray 9 (0, 0)) := h1
  have a2 : w.heap[g]? = some (.cells (tv zs).toArray 9 (0, 0)) := h2
  rw [a1] at a2
  injection a2 with a2
  injection a2 with a2
  exact (tv_inj (by simpa using a2)).symm
/-- A list of texts is written over. -/
theorem over_texts {B C k : Nat} {W1 W : World} (h : Ov9 B C k W1 W) (hk : k ≤ 1000000) {s : Sl} {nm : List ByteArray} (ho : Own1 B W1 s nm) (hC : ∀ j ys, BlkV W1 j 9 (tv ys) → s.a = some ⟨j, 0, none⟩ → j < C) :
    Calls Try.prog 51 #[.slice s.a s.n s.c] W fun e w' => e = .returned (.tuple #[]) ∧ Hid (Ov9 B C (k + 1) W1 w' ∧ ∀ j, j < W1.heap.size → (∀ ys, ¬ BlkV W1 j 9 (tv ys)) → w'.heap[j]? = W.heap[j]?) := by
  obtain ⟨ys, ⟨ho, hys⟩, _⟩ := ho
  obtain ⟨sa, sn, sc⟩ := s
  rcases ho with ⟨e, _, _⟩ | ⟨g, e, hg, hblk, hn, hm⟩
  · injection e with e1 e2 e3
    simp only at e1 e2 e3
    subst e1 e2 e3
    refine Calls.mono (overT_nil W) ?_
    rintro e w' ⟨rfl, rfl⟩
    refine ⟨rfl, ⟨h.os, h.tape, h.output, h.size, h.out, fun j zs h1 h2 => ?_⟩, fun _ _ _ => rfl⟩
    obtain ⟨zs', a1, a2, a3⟩ := h.ins j zs h1 h2
    exact ⟨zs', a1, a2, fun s hs => by have := a3 s hs; omega⟩
  · injection e with e1 e2 e3
    simp only at e1 e2 e3
    subst e1 e2 e3
    obtain ⟨ys', b1, b2, b3⟩ := h.ins g ys hblk hys
    rw [tv_len] at hn hm
    have hcall := overT_big g nm.length (tv ys).length ys' W b1 (by rw [b2, tv_len]) (by rw [tv_len]; exact hn) (by rw [tv_len]; exact hm) (fun s hs => by have := b3 s hs; omega)
    refine Calls.mono hcall ?_
    rintro e w' ⟨rfl, H⟩
    obtain ⟨c1, c2, c3⟩ := H.out
    have hgC := hC g ys hblk rfl
    refine ⟨rfl, ⟨c2.os.trans h.os, c2.tape.trans h.tape, c2.output.trans h.output, c3.trans h.size, fun j hj ho => ?_, fun j zs h1 h2 => ?_⟩, fun j hj hno => c2.block j (by rw [h.size]; exact hj) (fun e => by have := Option.some.inj e; subst this; exact hno ys hblk)⟩
    · refine (c2.block j (by rw [h.size]; exact hj) (fun e => ?_)).trans (h.out j hj ho)
      have := Option.some.inj e
      subst this
      omega
    · by_cases hjg : j = g
      · subst hjg
        have := blk_vals h1 hblk
        subst this
        refine ⟨ys'.map bang, c1, by rw [List.length_map, b2], ?_⟩
        intro s hs
        obtain ⟨z, hz, rfl⟩ := List.mem_map.1 hs
        rw [bang_size]
        have := b3 z hz
        omega
      · obtain ⟨zs', a1, a2, a3⟩ := h.ins j zs h1 h2
        exact ⟨zs', a1.same (c2.block j a1.lt (fun e => hjg (Option.some.inj e))), a2, fun s hs => by have := a3 s hs; omega⟩
/-- Only blocks from B up to C are written over. -/
structure Tch (B C : Nat) (W W' : World) : Prop where
  os : W'.os = W.os
  tape : W'.tape = W.tape
  output : W'.output = W.output
  size : W.heap.size ≤ W'.heap.size
  out : ∀ j, j < W.heap.size → (j < B ∨ C ≤ j) → W'.heap[j]? = W.heap[j]?
theorem own1_lt {B : Nat} {w : World} {s : Sl} {nm : List ByteArray} (h : Own1 B w s nm) : ∀ j, s.a = some ⟨j, 0, none⟩ → j < w.heap.size := by
  obtain ⟨ys, ⟨h1, _⟩, _⟩ := h
  intro j hj
  rcases h1 with ⟨e, _, _⟩ | ⟨g, e, _, hblk, _⟩
  · injection e with e1; rw [e1] at hj; cases hj
  · injection e with e1
    rw [e1] at hj
    injection hj with hj
    injection hj with hj
    subst hj
    exact hblk.lt
theorem no9 {w : World} {j : Nat} {t : TypeId} {xs : List Value} (h : BlkV w j t xs) (ht : t ≠ 9) : ∀ ys, ¬ BlkV w j 9 (tv ys) := fun ys hy => ht (blk_ty h hy)
theorem no9d {w : World} {j : Nat} {x : DA} (h : DBlk w j x) : ∀ ys, ¬ BlkV w j 9 (tv ys) := fun ys hy => h.ne hy (by decide) rfl
theorem no9b {w : World} {j : Nat} {zs : List Int} (h : Blk w j zs) : ∀ ys, ¬ BlkV w j 9 (tv ys) := by
  intro ys hy
  have hh := h.1
  have hh' : w.heap[j]? = some (.cells (tv ys).toArray 9 (0, 0)) := hy
  rw [hh] at hh'
  injection hh' with hh'
  injection hh' with _ hh'
  exact absurd hh' (by decide)
/-- Numbers' block is written over: texts stay. -/
theorem Ov9.nums {B C k : Nat} {W1 W W' : World} {g : Nat} {xs xs' : List Value} (h : Ov9 B C k W1 W) (hg : B ≤ g ∧ g < C) (hb : BlkV W1 g 54 xs) (hgr : W.grownBy W' (some g)) (hs : W'.heap.size = W.heap.size) : Ov9 B C k W1 W' := by
  refine ⟨hgr.os.trans h.os, hgr.tape.trans h.tape, hgr.output.trans h.output, hs.trans h.size, fun j hj ho => ?_, fun j ys h1 h2 => ?_⟩
  · exact (hgr.block j (by rw [h.size]; exact hj) (fun e => by have := Option.some.inj e; omega)).trans (h.out j hj ho)
  · obtain ⟨ys', a1, a2, a3⟩ := h.ins j ys h1 h2
    refine ⟨ys', a1.same (hgr.block j a1.lt (fun e => ?_)), a2, a3⟩
    have := Option.some.inj e
    subst this
    exact absurd (blk_ty h1 hb) (by decide)
set_option maxRecDepth 100000 in
set_option maxHeartbeats 8000000 in
theorem over5 (Wd W : World) (B : Nat) (x : DA) (d : Dat) (h : DOwn B Wd x d) (hbw : Below Wd.heap.size Wd W) (hnn : d.ns.length ≤ 1000) :
    Calls Try.prog 25 #[.agg #[.slice x.p1.a x.p1.n x.p1.c, .slice x.p2.a x.p2.n x.p2.c, .slice x.p3.a x.p3.n x.p3.c, .slice x.p4.a x.p4.n x.p4.c]] W fun e w' => e = .returned (.tuple #[]) ∧ Hid (Tch B Wd.heap.size W w') := by
  have hb1 := new_below W (.cells #[.slice x.p1.a x.p1.n x.p1.c, .slice x.p2.a x.p2.n x.p2.c, .slice x.p3.a x.p3.n x.p3.c, .slice x.p4.a x.p4.n x.p4.c] 29)
  have hC : Wd.heap.size ≤ W.heap.size := hbw.size
  have HD1 : Hid (DOwn B (W.alloc (.cells #[.slice x.p1.a x.p1.n x.p1.c, .slice x.p2.a x.p2.n x.p2.c, .slice x.p3.a x.p3.n x.p3.c, .slice x.p4.a x.p4.n x.p4.c] 29)) x d) := (h.stays hbw).stays hb1
  have HBX : Hid (DBlk (W.alloc (.cells #[.slice x.p1.a x.p1.n x.p1.c, .slice x.p2.a x.p2.n x.p2.c, .slice x.p3.a x.p3.n x.p3.c, .slice x.p4.a x.p4.n x.p4.c] 29)) W.heap.size x ∧ (W.alloc (.cells #[.slice x.p1.a x.p1.n x.p1.c, .slice x.p2.a x.p2.n x.p2.c, .slice x.p3.a x.p3.n x.p3.c, .slice x.p4.a x.p4.n x.p4.c] 29)).heap.size = W.heap.size + 1 ∧ Below W.heap.size W (W.alloc (.cells #[.slice x.p1.a x.p1.n x.p1.c, .slice x.p2.a x.p2.n x.p2.c, .slice x.p3.a x.p3.n x.p3.c, .slice x.p4.a x.p4.n x.p4.c] 29))) := ⟨heap_alloc_new _ _, by simp, hb1⟩
  have HDD : Hid (DOwn B Wd x d) := h
  have HWD : Hid (∀ j, j < Wd.heap.size → (W.alloc (.cells #[.slice x.p1.a x.p1.n x.p1.c, .slice x.p2.a x.p2.n x.p2.c, .slice x.p3.a x.p3.n x.p3.c, .slice x.p4.a x.p4.n x.p4.c] 29)).heap[j]? = Wd.heap[j]?) := fun j hj => (hb1.block j (by omega)).trans (hbw.block j hj)
  clear h hbw hb1
  obtain ⟨⟨a1, n1, k1⟩, ⟨a2, n2, k2⟩, ⟨a3, n3, k3⟩, ⟨a4, n4, k4⟩⟩ := x
  simp only at HBX HWD HD1 ⊢
  have hn1 : d.ns.length = n1 := HDD.out.1.rd.len
  have HLN : Hid (d.ns.length = n1) := hn1
  have hn1b : n1 ≤ 1000 := by omega
  clear hn1 hnn
  go_enter Try.func25, Try.ntmps25
  go_upto_region 1 with fail
  generalize (W.alloc (.cells #[.slice a1 n1 k1, .slice a2 n2 k2, .slice a3 n3 k3, .slice a4 n4 k4] 29)) = W1 at *
  obtain ⟨b, hb⟩ : ∃ b, b = W.heap.size := ⟨_, rfl⟩
  rw [← hb] at HBX ⊢
  have Hb : Hid (b = W.heap.size) := hb
  have hCb : Wd.heap.size ≤ b := by rw [hb]; exact hC
  clear hb hC
  go_wp2_with fail
  go_loopw [2] (fun v wr => ∃ k : Nat, k ≤ n1 ∧ v = .int .i64 (k : Int) ∧ Hid (Ov9 B Wd.heap.size k W1 wr ∧ (∀ j, j < W1.heap.size → (∀ ys, ¬ BlkV W1 j 9 (tv ys)) → wr.heap[j]? = W1.heap[j]?))) (fun v _ => n1 - (intOf v).toNat)
  case atStart => exact ⟨0, Nat.zero_le _, rfl, Ov9.refl _ _ _, fun _ _ _ => rfl⟩
  case round =>
    obtain ⟨k, hk, rfl, HG⟩ := hrel
    have HBk : Hid (DBlk wr b ⟨⟨a1, n1, k1⟩, ⟨a2, n2, k2⟩, ⟨a3, n3, k3⟩, ⟨a4, n4, k4⟩⟩) := HBX.out.1.same (HG.out.2 b HBX.out.1.lt (no9d HBX.out.1))
    have c0 : wr.cell? ⟨b, 0, none⟩ = some (.slice a1 n1 k1) := HBk.out.box.1
    have hbl := HBk.out.lt
    by_cases hlt : k < n1
    · have hlt' : (k : Int) < (n1 : Int) := by omega
      have hki : k < d.ns.length := by rw [HLN.out]; exact hlt
      obtain ⟨xs, hov, hin⟩ := HDD.out.1
      simp only at hov
      rcases hov with ⟨_, e0, _⟩ | ⟨g1, e1, hg1, hblk1, hnx, _⟩
      · omega
      · have e2 : a1 = some ⟨g1, 0, none⟩ := by injection e1
        clear e1
        subst e2
        obtain ⟨s, hs1, hs2⟩ := hin k hki
        have hW1b : BlkV W1 g1 53 xs := hblk1.same (HWD.out g1 hblk1.lt)
        have hkx : k < xs.length := by omega
        have hcell : wr.cell? ⟨g1, k, none⟩ = some (.slice s.a s.n s.c) := by
          have h1 : BlkV wr g1 53 xs := hW1b.same (HG.out.2 g1 hW1b.lt (no9 hW1b (by decide)))
          rw [h1.cell k hkx]
          rw [List.getElem?_eq_getElem hkx] at hs1
          exact hs1
        have hgl : g1 < wr.heap.size := by have := HG.out.1.size; have := hW1b.lt; omega
        have HO1 : Hid (Own1 B W1 s d.ns[k]) := hs2.keep (fun j hj hl _ => HWD.out j hl)
        have KO : Hid (Calls Try.prog 51 #[.slice s.a s.n s.c] wr fun e w' => e = .returned (.tuple #[]) ∧ Hid (Ov9 B Wd.heap.size (k + 1) W1 w' ∧ ∀ j, j < W1.heap.size → (∀ ys, ¬ BlkV W1 j 9 (tv ys)) → w'.heap[j]? = wr.heap[j]?)) := over_texts HG.out.1 (by omega) HO1.out (fun j _ _ hj => own1_lt hs2 j hj)
        clear hs1 hs2 hin hblk1 hnx hW1b hkx HO1
        go_wp2_with fail
        refine KO.out.mono ?_
        rintro e W3 ⟨rfl, H3⟩
        have HG3 : Hid (Ov9 B Wd.heap.size (k + 1) W1 W3 ∧ (∀ j, j < W1.heap.size → (∀ ys, ¬ BlkV W1 j 9 (tv ys)) → W3.heap[j]? = W1.heap[j]?)) := ⟨H3.out.1, fun j hj hno => (H3.out.2 j hj hno).trans (HG.out.2 j hj hno)⟩
        clear KO H3 HG
        go_wp2_with fail
        exact ⟨⟨k + 1, by omega, by go_num, HG3⟩, by simp [intOf]; omega⟩
    · have hge : ¬ (k : Int) < (n1 : Int) := by omega
      clear hlt c0
      have c1 : wr.cell? ⟨b, 1, none⟩ = some (.slice a2 n2 k2) := HBk.out.box.2.1
      have c2 : wr.cell? ⟨b, 2, none⟩ = some (.slice a3 n3 k3) := HBk.out.box.2.2.1
      have c3 : wr.cell? ⟨b, 3, none⟩ = some (.slice a4 n4 k4) := HBk.out.box.2.2.2.1
      have c0 : wr.cell? ⟨b, 0, none⟩ = some (.slice a1 n1 k1) := HBk.out.box.1
      obtain ⟨xu, huo, _, _, hqu⟩ := HDD.out.2.1
      simp only at huo
      obtain ⟨wz, hwz⟩ : ∃ z, z = wr := ⟨_, rfl⟩
      subst hwz
      rcases huo with ⟨e0, _, _⟩ | ⟨gu, e1, hgu, hblku, hnu, hmu⟩
      · injection e0 with e0 e2 e3
        subst e0 e2 e3
        have HGT : Hid (Ov9 B Wd.heap.size k W1 wz ∧ (∀ j, j < W1.heap.size → (∃ zs, Blk W1 j zs) → wz.heap[j]? = W1.heap[j]?) ∧ DBlk wz b ⟨⟨a1, n1, k1⟩, ⟨none, 0, 0⟩, ⟨a3, n3, k3⟩, ⟨a4, n4, k4⟩⟩) := ⟨HG.out.1, fun j hj ⟨zs, hz⟩ => HG.out.2 j hj (no9b hz), HBk.out⟩
        go_wp2_with fail
        go_loopw [4] (fun i wr => wr = wz ∧ i = .int .i64 0) (fun _ _ => 0)
        case atStart => exact ⟨rfl, rfl⟩
        case round =>
          obtain ⟨hwr, rfl⟩ := hrel
          subst hwr
          clear c0 c1 c2 c3
          have KT : Hid (Calls Try.prog 51 #[.slice a3 n3 k3] wr fun e w' => e = .returned (.tuple #[]) ∧ Hid (Ov9 B Wd.heap.size (k + 1) W1 w' ∧ ∀ j, j < W1.heap.size → (∀ ys, ¬ BlkV W1 j 9 (tv ys)) → w'.heap[j]? = wr.heap[j]?)) := over_texts (s := ⟨a3, n3, k3⟩) HGT.out.1 (by omega) HD1.out.2.2.1 (fun j _ _ hj => own1_lt HDD.out.2.2.1 j hj)
          have cc2 : wr.cell? ⟨b, 2, none⟩ = some (.slice a3 n3 k3) := HGT.out.2.2.box.2.2.1
          have ccl := HGT.out.2.2.lt
          go_upto_region 10 with fail
          go_wp2_with fail
          refine KT.out.mono ?_
          rintro e W5 ⟨rfl, H5⟩
          have HB5 : Hid (DBlk W5 b ⟨⟨a1, n1, k1⟩, ⟨none, 0, 0⟩, ⟨a3, n3, k3⟩, ⟨a4, n4, k4⟩⟩) := HGT.out.2.2.same (H5.out.2 b HBX.out.1.lt (no9d HBX.out.1))
          have c5 : W5.cell? ⟨b, 3, none⟩ = some (.slice a4 n4 k4) := HB5.out.box.2.2.2.1
          have c5l := HB5.out.lt
          have HRW : Hid (∀ j, j < W1.heap.size → (∃ zs, Blk W1 j zs) → W5.heap[j]? = W1.heap[j]?) := fun j hj ⟨zs, hz⟩ => (H5.out.2 j hj (no9b hz)).trans (HGT.out.2.1 j hj ⟨zs, hz⟩)
          have HO5 : Hid (Ov9 B Wd.heap.size (k + 1) W1 W5) := H5.out.1
          clear KT H5
          obtain ⟨yr, hro, _⟩ := HDD.out.2.2.2
          simp only at hro
          have KR : Hid (Calls Try.prog 30 #[.slice a4 n4 k4] W5 fun e w' => e = .returned (.tuple #[]) ∧ Hid (Tch B Wd.heap.size W5 w')) := by
            rcases hro with ⟨e0, _, _⟩ | ⟨gr, e1, hgr, hblkr, hnr, hmr⟩
            · injection e0 with e0 e2 e3
              subst e0 e2 e3
              refine Calls.mono (over_nil W5) ?_
              rintro e w' ⟨rfl, rfl⟩
              exact ⟨rfl, rfl, rfl, rfl, Nat.le_refl _, fun _ _ _ => rfl⟩
            · injection e1 with e1 e2 e3
              subst e1 e2 e3
              have hb1 : Blk W1 gr yr := hblkr.same (HWD.out gr hblkr.lt)
              have hb5 : Blk W5 gr yr := hb1.same (HRW.out gr hb1.lt ⟨yr, hb1⟩)
              refine Calls.mono (over_blk gr _ yr W5 hb5 hnr hmr) ?_
              rintro e w' ⟨rfl, q1, q2, q3⟩
              have hlr := hblkr.lt
              exact ⟨rfl, q2.os, q2.tape, q2.output, q2.size, fun j hj ho => q2.block j hj (fun e => by have := Option.some.inj e; omega)⟩
          go_wp2_with fail
          refine KR.out.mono ?_
          rintro e W6 ⟨rfl, H6⟩
          go_wp2_with fail
          go_end0
          refine ⟨rfl, ?_⟩
          have hz1 := HBX.out.2.1
          have hz2 := HBX.out.2.2
          have hz3 := Hb.out
          exact ⟨H6.out.os.trans (HO5.out.os.trans hz2.os), H6.out.tape.trans (HO5.out.tape.trans hz2.tape), H6.out.output.trans (HO5.out.output.trans hz2.output), by have := H6.out.size; have := HO5.out.size; omega, fun j hj ho => (H6.out.out j (by have := HO5.out.size; omega) ho).trans ((HO5.out.out j (by omega) ho).trans (hz2.block j (by omega)))⟩
      · injection e1 with e1 e2 e3
        subst e1 e3
        have hW1u : BlkV W1 gu 54 xu := hblku.same (HWD.out gu hblku.lt)
        have HBU : Hid (BlkV wz gu 54 xu) := hW1u.same (HG.out.2 gu hW1u.lt (no9 hW1u (by decide)))
        have hguC : gu < Wd.heap.size := hblku.lt
        have HU1 : Hid (BlkV W1 gu 54 xu) := hW1u
        clear hblku hW1u
        unfold maxLen at hmu
        generalize hxl : xu.length = cu at *
        have HXL : Hid (xu.length = cu) := hxl
        clear hxl
        have hgul := HBU.out.lt
        go_wp2_with fail
        go_loopw [4] (fun i wr => ∃ k : Nat, k ≤ cu ∧ i = .int .i64 (k : Int) ∧ ∃ xs : List Value, Hid (BlkV wr gu 54 xs ∧ xs.length = cu ∧ (∀ v ∈ xs, ∃ z : Int, v = .int .u32 z) ∧ wz.grownBy wr (some gu) ∧ wr.heap.size = wz.heap.size)) (fun i _ => cu - (intOf i).toNat)
        case atStart => exact ⟨0, Nat.zero_le _, rfl, xu, HBU.out, HXL.out, fun v hv => by obtain ⟨z, hz, _⟩ := hqu v hv; exact ⟨z, hz⟩, World.grownBy.refl _ _, rfl⟩
        case round =>
          obtain ⟨m, hm, rfl, xs, HX⟩ := hrel
          by_cases hlt2 : m < cu
          · have hmx : m < xs.length := by rw [HX.out.2.1]; exact hlt2
            have hlt3 : (m : Int) < (cu : Int) := by omega
            have hcell := HX.out.1.cell m hmx
            obtain ⟨z, hz⟩ := HX.out.2.2.1 xs[m] (List.getElem_mem hmx)
            rw [hz] at hcell
            have hf := HX.out.1.frozen m
            have hl := HX.out.1.lt
            clear hz
            go_wp2_with fail
            refine ⟨⟨m + 1, by omega, by go_num, xs.set m (.int .u32 (bits .xor .u32 z 23130)), HX.out.1.stored m _, by rw [List.length_set]; exact HX.out.2.1, ?_, ?_, ?_⟩, by simp [intOf]; omega⟩
            · intro v hv
              rcases List.mem_or_eq_of_mem_set hv with h | h
              · exact HX.out.2.2.1 v h
              · exact ⟨_, h⟩
            · obtain ⟨_, _, _, hG, hz⟩ := HX.out
              exact ⟨hG.os, hG.tape, hG.output, by rw [← hz]; simp [World.setCell], fun j hj hne => (Below.heap_setCell _ _ _ j (fun e => hne (by rw [e]))).trans (hG.block j hj hne)⟩
            · rw [← HX.out.2.2.2.2]
              simp [World.setCell]
          · have hmc : m = cu := by omega
            subst hmc
            have hge2 : ¬ (m : Int) < (m : Int) := by omega
            have HGT : Hid (Ov9 B Wd.heap.size k W1 wr ∧ (∀ j, j < W1.heap.size → (∃ zs, Blk W1 j zs) → wr.heap[j]? = W1.heap[j]?) ∧ DBlk wr b ⟨⟨a1, n1, k1⟩, ⟨some ⟨gu, 0, none⟩, n2, m⟩, ⟨a3, n3, k3⟩, ⟨a4, n4, k4⟩⟩) := by
              obtain ⟨q1, q2, q3, q4, q5⟩ := HX.out
              refine ⟨HG.out.1.nums (xs' := xs) ⟨hgu, hguC⟩ HU1.out q4 q5, fun j hj ⟨zs, hz⟩ => ?_, HBk.out.same (q4.block b HBk.out.lt (fun e => by have := Option.some.inj e; omega))⟩
              refine (q4.block j (by rw [HG.out.1.size]; exact hj) (fun e => ?_)).trans (HG.out.2 j hj (no9b hz))
              have := Option.some.inj e
              subst this
              have hh := hz.1
              have hh' : W1.heap[j]? = some (.cells xu.toArray 54 (0, 0)) := HU1.out
              rw [hh] at hh'
              injection hh' with hh'
              injection hh' with _ hh'
              exact absurd hh' (by decide)
            clear HX c0 c1 c2 c3
            have KT : Hid (Calls Try.prog 51 #[.slice a3 n3 k3] wr fun e w' => e = .returned (.tuple #[]) ∧ Hid (Ov9 B Wd.heap.size (k + 1) W1 w' ∧ ∀ j, j < W1.heap.size → (∀ ys, ¬ BlkV W1 j 9 (tv ys)) → w'.heap[j]? = wr.heap[j]?)) := over_texts (s := ⟨a3, n3, k3⟩) HGT.out.1 (by omega) HD1.out.2.2.1 (fun j _ _ hj => own1_lt HDD.out.2.2.1 j hj)
            have cc2 : wr.cell? ⟨b, 2, none⟩ = some (.slice a3 n3 k3) := HGT.out.2.2.box.2.2.1
            have ccl := HGT.out.2.2.lt
            go_upto_region 10 with fail
            go_wp2_with fail
            refine KT.out.mono ?_
            rintro e W5 ⟨rfl, H5⟩
            have HB5 : Hid (DBlk W5 b ⟨⟨a1, n1, k1⟩, ⟨some ⟨gu, 0, none⟩, n2, m⟩, ⟨a3, n3, k3⟩, ⟨a4, n4, k4⟩⟩) := HGT.out.2.2.same (H5.out.2 b HBX.out.1.lt (no9d HBX.out.1))
            have c5 : W5.cell? ⟨b, 3, none⟩ = some (.slice a4 n4 k4) := HB5.out.box.2.2.2.1
            have c5l := HB5.out.lt
            have HRW : Hid (∀ j, j < W1.heap.size → (∃ zs, Blk W1 j zs) → W5.heap[j]? = W1.heap[j]?) := fun j hj ⟨zs, hz⟩ => (H5.out.2 j hj (no9b hz)).trans (HGT.out.2.1 j hj ⟨zs, hz⟩)
            have HO5 : Hid (Ov9 B Wd.heap.size (k + 1) W1 W5) := H5.out.1
            clear KT H5
            obtain ⟨yr, hro, _⟩ := HDD.out.2.2.2
            simp only at hro
            have KR : Hid (Calls Try.prog 30 #[.slice a4 n4 k4] W5 fun e w' => e = .returned (.tuple #[]) ∧ Hid (Tch B Wd.heap.size W5 w')) := by
              rcases hro with ⟨e0, _, _⟩ | ⟨gr, e1, hgr, hblkr, hnr, hmr⟩
              · injection e0 with e0 e2 e3
                subst e0 e2 e3
                refine Calls.mono (over_nil W5) ?_
                rintro e w' ⟨rfl, rfl⟩
                exact ⟨rfl, rfl, rfl, rfl, Nat.le_refl _, fun _ _ _ => rfl⟩
              · injection e1 with e1 e2 e3
                subst e1 e2 e3
                have hb1 : Blk W1 gr yr := hblkr.same (HWD.out gr hblkr.lt)
                have hb5 : Blk W5 gr yr := hb1.same (HRW.out gr hb1.lt ⟨yr, hb1⟩)
                refine Calls.mono (over_blk gr _ yr W5 hb5 hnr hmr) ?_
                rintro e w' ⟨rfl, q1, q2, q3⟩
                have hlr := hblkr.lt
                exact ⟨rfl, q2.os, q2.tape, q2.output, q2.size, fun j hj ho => q2.block j hj (fun e => by have := Option.some.inj e; omega)⟩
            go_wp2_with fail
            refine KR.out.mono ?_
            rintro e W6 ⟨rfl, H6⟩
            go_wp2_with fail
            go_end0
            refine ⟨rfl, ?_⟩
            have hz1 := HBX.out.2.1
            have hz2 := HBX.out.2.2
            have hz3 := Hb.out
            exact ⟨H6.out.os.trans (HO5.out.os.trans hz2.os), H6.out.tape.trans (HO5.out.tape.trans hz2.tape), H6.out.output.trans (HO5.out.output.trans hz2.output), by have := H6.out.size; have := HO5.out.size; omega, fun j hj ho => (H6.out.out j (by have := HO5.out.size; omega) ho).trans ((HO5.out.out j (by omega) ho).trans (hz2.block j (by omega)))⟩
end Go.Proofs.Ytdeoembjfdbbkaa
/- The walk of the statement on what is read of bytes. -/
namespace Go.Proofs.Ytdeoembjfdbbkaa
open Go.ChangeShapes Go.WideShapes Go.ChangeAt Go.RowKit
set_option linter.unusedVariables false
set_option linter.unusedSimpArgs false

theorem readF_ns {t : Nat} {zs : List Int} (hb : ∀ z ∈ zs, 0 ≤ z ∧ z ≤ 255) : (readF t zs).1.ns.length ≤ 1000 := by
  by_cases h : (readF t zs).2 = 0
  · exact (readF_bd hb h).n
  · have e : (readF t zs).1 = nilD := by
      revert h
      unfold readF
      repeat' split
      all_goals simp
    rw [e]; simp [nilD]
/-- What OverData is told holds where the bytes that were lent have turned. -/
theorem over5b (W2 W : World) (B : Nat) (x : DA) (d : Dat) (h : DOwn B W2 x d) (hs : W2.heap.size ≤ W.heap.size) (hk : ∀ j, B ≤ j → j < W2.heap.size → W.heap[j]? = W2.heap[j]?) (hnn : d.ns.length ≤ 1000) :
    Calls Try.prog 25 #[.agg #[.slice x.p1.a x.p1.n x.p1.c, .slice x.p2.a x.p2.n x.p2.c, .slice x.p3.a x.p3.n x.p3.c, .slice x.p4.a x.p4.n x.p4.c]] W fun e w' => e = .returned (.tuple #[]) ∧ Hid (Tch B W2.heap.size W w') := by
  have hz : ({ W with heap := W.heap.extract 0 W2.heap.size } : World).heap.size = W2.heap.size := by simp; omega
  have hg : ∀ j, j < W2.heap.size → ({ W with heap := W.heap.extract 0 W2.heap.size } : World).heap[j]? = W.heap[j]? := by
    intro j hj
    simp [Array.getElem?_extract, hj]
    omega
  have h1 : DOwn B { W with heap := W.heap.extract 0 W2.heap.size } x d := h.keep (fun j h1 h2 => (hg j h2).trans (hk j h1 h2))
  have := over5 { W with heap := W.heap.extract 0 W2.heap.size } W B x d h1 ⟨rfl, rfl, rfl, by rw [hz]; exact hs, fun k hk => (hg k (by rw [hz] at hk; exact hk)).symm⟩ hnn
  rw [hz] at this
  exact this
/-- Where the walk stands: the bytes that were lent, the bytes that came. -/
structure RdS (w W : World) (g : Nat) (a : Option Addr) (zs : List Int) : Prop where
  blk : Blk W g (lent zs 3)
  bs : Rd W a zs
  bel : Below w.heap.size w W
theorem RdS.go {w W W' : World} {g : Nat} {a : Option Addr} {zs : List Int} (h : RdS w W g a zs) (hb : Below W.heap.size W W') : RdS w W' g a zs :=
  ⟨h.blk.below hb, h.bs.below hb, h.bel.trans (hb.mono h.bel.size)⟩
set_option maxRecDepth 100000 in
set_option maxHeartbeats 16000000 in
theorem reads_any (t : Nat) (a : Option Addr) (len cap : Nat) (zs : List Int) (w : World) (hb : BRd w ⟨a, len, cap⟩ zs) :
    Calls Try.prog 4 #[.int .u16 t, .slice a len cap] w fun e w' => e = .returned (.bool true) ∧ Below w.heap.size w w' := by
  have hl : zs.length = len := hb.len
  have hc : len ≤ cap ∧ cap ≤ 9223372036854775807 := hb.cap
  have hnil : a = none → cap = 0 := hb.nil
  have hbd := hb.rd.2
  have HW0 : Hid (Rd w a zs) := hb.rd
  have KL : Hid (len ≤ 100000 → Calls Try.prog 26 #[.slice a len cap] w fun e w' => e = .returned (.slice (some ⟨w.heap.size, 0, none⟩) len (len + 3)) ∧ Hid (RdS w w' w.heap.size a zs ∧ w'.heap.size = w.heap.size + 1)) := by
    intro hlen
    have := lent_any a cap zs w hb.rd hnil (by omega)
    rw [hl] at this
    refine Calls.mono this ?_
    rintro e w' ⟨rfl, q1, q2, q3⟩
    exact ⟨rfl, ⟨q1, hb.rd.below q3, q3⟩, q2⟩
  have KR : Hid (len ≤ 100000 → ∀ W g, Blk W g (lent zs 3) → Calls Try.prog 27 #[.int .u16 t, .slice (some ⟨g, 0, none⟩) len (len + 3)] W (RdP (readF t zs) W)) := by
    intro hlen W g hg
    have hr := hg.rd zs.length
    rw [lent_take] at hr
    exact read5_any t _ len (len + 3) zs W hr hl (by omega) (by intro h; cases h)
  have KF : Hid (len ≤ 100000 → ∀ W, Rd W a zs → Calls Try.prog 28 #[.int .u16 t, .slice a len cap] W (RdR (readF t zs) W)) := fun hlen W hW => refread5 t a len cap zs W hW hl hc hlen hnil
  have KK : Hid (len ≤ 100000 → ∀ W g, Blk W g (lent zs 3) → Rd W a zs → Calls Try.prog 29 #[.slice (some ⟨g, 0, none⟩) len (len + 3), .slice a len cap] W fun e w' => e = .returned (.bool true) ∧ Hid (Below W.heap.size W w')) := fun hlen W g h1 h2 => kept_yes g a cap len zs W hl h1 h2 hnil (by omega) hc.1
  have KO : Hid (len ≤ 100000 → ∀ W g, Blk W g (lent zs 3) → Calls Try.prog 30 #[.slice (some ⟨g, 0, none⟩) len (len + 3)] W fun e w' => e = .returned (.tuple #[]) ∧ Hid (W.grownBy w' (some g) ∧ w'.heap.size = W.heap.size)) := by
    intro hlen W g hg
    have e1 : (lent zs 3).length = len + 3 := by rw [lent_len zs 3 (by omega), hl]
    have := over_blk g len (lent zs 3) W hg (by omega) (by unfold maxLen; omega)
    rw [e1] at this
    refine Calls.mono this ?_
    rintro e w' ⟨rfl, q1, q2, q3⟩
    exact ⟨rfl, q2, q3⟩
  have HNS : Hid ((readF t zs).1.ns.length ≤ 1000) := readF_ns hbd
  clear hb hbd hnil hl hc
  generalize readF t zs = RR at *
  obtain ⟨rd, rc⟩ := RR
  simp only at HNS KR KF
  have KS : Hid (∀ W (u v : DA), DRd W u rd → DRd W v rd → Calls Try.prog 17 #[.agg #[.slice u.p1.a u.p1.n u.p1.c, .slice u.p2.a u.p2.n u.p2.c, .slice u.p3.a u.p3.n u.p3.c, .slice u.p4.a u.p4.n u.p4.c], .agg #[.slice v.p1.a v.p1.n v.p1.c, .slice v.p2.a v.p2.n v.p2.c, .slice v.p3.a v.p3.n v.p3.c, .slice v.p4.a v.p4.n v.p4.c]] W fun e w' => e = .returned (.bool true) ∧ Hid (Below W.heap.size W w')) := fun W u v h1 h2 => samedata_yes u v rd W h1 h2
  have hbr := Below.refl w.heap.size w
  go_enter Try.func4, Try.ntmps4
  by_cases g1 : (2000 : Int) < (len : Int)
  · by_cases g2 : (len : Int) ≤ 65535
    · go_wp2_with fail
      go_ret
      exact ⟨rfl, hbr⟩
    · by_cases g3 : (65540 : Int) < (len : Int)
      · go_wp2_with fail
        go_ret
        exact ⟨rfl, hbr⟩
      · have hlen : len ≤ 100000 := by omega
        have KL1 := KL.out hlen
        have KR1 := KR.out hlen
        have KF1 := KF.out hlen
        have KK1 := KK.out hlen
        have KO1 := KO.out hlen
        have HKL : Hid (Calls Try.prog 26 #[.slice a len cap] w fun e w' => e = .returned (.slice (some ⟨w.heap.size, 0, none⟩) len (len + 3)) ∧ Hid (RdS w w' w.heap.size a zs ∧ w'.heap.size = w.heap.size + 1)) := KL1
        have HKR : Hid (∀ W g, Blk W g (lent zs 3) → Calls Try.prog 27 #[.int .u16 t, .slice (some ⟨g, 0, none⟩) len (len + 3)] W (RdP (rd, rc) W)) := KR1
        have HKF : Hid (∀ W, Rd W a zs → Calls Try.prog 28 #[.int .u16 t, .slice a len cap] W (RdR (rd, rc) W)) := KF1
        have HKK : Hid (∀ W g, Blk W g (lent zs 3) → Rd W a zs → Calls Try.prog 29 #[.slice (some ⟨g, 0, none⟩) len (len + 3), .slice a len cap] W fun e w' => e = .returned (.bool true) ∧ Hid (Below W.heap.size W w')) := KK1
        have HKO : Hid (∀ W g, Blk W g (lent zs 3) → Calls Try.prog 30 #[.slice (some ⟨g, 0, none⟩) len (len + 3)] W fun e w' => e = .returned (.tuple #[]) ∧ Hid (W.grownBy w' (some g) ∧ w'.heap.size = W.heap.size)) := KO1
        clear KL1 KR1 KF1 KK1 KO1 KL KR KF KK KO hbr
        go_wp2_with fail
        refine HKL.out.mono ?_
        rintro e W1 ⟨rfl, H1⟩
        obtain ⟨g, hg⟩ : ∃ g, g = w.heap.size := ⟨_, rfl⟩
        rw [← hg] at H1 ⊢
        have Hg : Hid (g = w.heap.size) := hg
        clear hg
        have HS1 : Hid (RdS w W1 g a zs) := H1.out.1
        have HZ1 : Hid (W1.heap.size = g + 1) := H1.out.2
        clear H1 HKL
        generalize hcc : len + 3 = cc at *
        clear hcc
        have K1 : Hid (Calls Try.prog 27 #[.int .u16 t, .slice (some ⟨g, 0, none⟩) len cc] W1 (RdP (rd, rc) W1)) := HKR.out W1 g HS1.out.blk
        go_wp2_with fail
        refine K1.out.mono ?_
        rintro e W2 ⟨x, rfl, H2⟩
        clear K1
        have hn2 := new_below W2 (.cells #[.slice x.p1.a x.p1.n x.p1.c, .slice x.p2.a x.p2.n x.p2.c, .slice x.p3.a x.p3.n x.p3.c, .slice x.p4.a x.p4.n x.p4.c] 29)
        have HS3 : Hid (RdS w (W2.alloc (.cells #[.slice x.p1.a x.p1.n x.p1.c, .slice x.p2.a x.p2.n x.p2.c, .slice x.p3.a x.p3.n x.p3.c, .slice x.p4.a x.p4.n x.p4.c] 29)) g a zs ∧ DBlk (W2.alloc (.cells #[.slice x.p1.a x.p1.n x.p1.c, .slice x.p2.a x.p2.n x.p2.c, .slice x.p3.a x.p3.n x.p3.c, .slice x.p4.a x.p4.n x.p4.c] 29)) W2.heap.size x ∧ DOwn W1.heap.size W2 x rd ∧ Below W2.heap.size W2 (W2.alloc (.cells #[.slice x.p1.a x.p1.n x.p1.c, .slice x.p2.a x.p2.n x.p2.c, .slice x.p3.a x.p3.n x.p3.c, .slice x.p4.a x.p4.n x.p4.c] 29)) ∧ (W2.alloc (.cells #[.slice x.p1.a x.p1.n x.p1.c, .slice x.p2.a x.p2.n x.p2.c, .slice x.p3.a x.p3.n x.p3.c, .slice x.p4.a x.p4.n x.p4.c] 29)).heap.size = W2.heap.size + 1 ∧ W1.heap.size ≤ W2.heap.size) := ⟨(HS1.out.go H2.out.2).go hn2, heap_alloc_new _ _, H2.out.1, hn2, by simp, H2.out.2.size⟩
        clear hn2 H2 HS1
        go_upto_region 4 with fail
        generalize W2.alloc (.cells #[.slice x.p1.a x.p1.n x.p1.c, .slice x.p2.a x.p2.n x.p2.c, .slice x.p3.a x.p3.n x.p3.c, .slice x.p4.a x.p4.n x.p4.c] 29) = W3 at *
        obtain ⟨D, hD⟩ : ∃ D, D = W2.heap.size := ⟨_, rfl⟩
        rw [← hD] at HS3 ⊢
        have HD : Hid (D = W2.heap.size) := hD
        clear hD
        have K2 : Hid (Calls Try.prog 27 #[.int .u16 t, .slice (some ⟨g, 0, none⟩) len cc] W3 (RdP (rd, rc) W3)) := HKR.out W3 g HS3.out.1.blk
        go_wp2_with fail
        refine K2.out.mono ?_
        rintro e W4 ⟨y, rfl, H4⟩
        clear K2 HKR
        have hn4 := new_below W4 (.cells #[.slice y.p1.a y.p1.n y.p1.c, .slice y.p2.a y.p2.n y.p2.c, .slice y.p3.a y.p3.n y.p3.c, .slice y.p4.a y.p4.n y.p4.c] 29)
        have HS5 : Hid (RdS w (W4.alloc (.cells #[.slice y.p1.a y.p1.n y.p1.c, .slice y.p2.a y.p2.n y.p2.c, .slice y.p3.a y.p3.n y.p3.c, .slice y.p4.a y.p4.n y.p4.c] 29)) g a zs ∧ DBlk (W4.alloc (.cells #[.slice y.p1.a y.p1.n y.p1.c, .slice y.p2.a y.p2.n y.p2.c, .slice y.p3.a y.p3.n y.p3.c, .slice y.p4.a y.p4.n y.p4.c] 29)) W4.heap.size y ∧ DOwn W3.heap.size (W4.alloc (.cells #[.slice y.p1.a y.p1.n y.p1.c, .slice y.p2.a y.p2.n y.p2.c, .slice y.p3.a y.p3.n y.p3.c, .slice y.p4.a y.p4.n y.p4.c] 29)) y rd ∧ Below W3.heap.size W3 (W4.alloc (.cells #[.slice y.p1.a y.p1.n y.p1.c, .slice y.p2.a y.p2.n y.p2.c, .slice y.p3.a y.p3.n y.p3.c, .slice y.p4.a y.p4.n y.p4.c] 29)) ∧ W3.heap.size ≤ W4.heap.size) := ⟨(HS3.out.1.go H4.out.2).go hn4, heap_alloc_new _ _, H4.out.1.stays hn4, H4.out.2.trans (hn4.mono H4.out.2.size), H4.out.2.size⟩
        clear hn4 H4
        go_upto_region 5 with fail
        generalize W4.alloc (.cells #[.slice y.p1.a y.p1.n y.p1.c, .slice y.p2.a y.p2.n y.p2.c, .slice y.p3.a y.p3.n y.p3.c, .slice y.p4.a y.p4.n y.p4.c] 29) = W5 at *
        generalize W4.heap.size = E at *
        have K3 : Hid (Calls Try.prog 28 #[.int .u16 t, .slice a len cap] W5 (RdR (rd, rc) W5)) := HKF.out W5 HS5.out.1.bs
        go_wp2_with fail
        refine K3.out.mono ?_
        rintro e W6 ⟨z, rfl, H6⟩
        clear K3 HKF
        have hn6 := new_below W6 (.cells #[.slice z.p1.a z.p1.n z.p1.c, .slice z.p2.a z.p2.n z.p2.c, .slice z.p3.a z.p3.n z.p3.c, .slice z.p4.a z.p4.n z.p4.c] 29)
        have HS7 : Hid (RdS w (W6.alloc (.cells #[.slice z.p1.a z.p1.n z.p1.c, .slice z.p2.a z.p2.n z.p2.c, .slice z.p3.a z.p3.n z.p3.c, .slice z.p4.a z.p4.n z.p4.c] 29)) g a zs ∧ DBlk (W6.alloc (.cells #[.slice z.p1.a z.p1.n z.p1.c, .slice z.p2.a z.p2.n z.p2.c, .slice z.p3.a z.p3.n z.p3.c, .slice z.p4.a z.p4.n z.p4.c] 29)) W6.heap.size z ∧ DOwn W5.heap.size (W6.alloc (.cells #[.slice z.p1.a z.p1.n z.p1.c, .slice z.p2.a z.p2.n z.p2.c, .slice z.p3.a z.p3.n z.p3.c, .slice z.p4.a z.p4.n z.p4.c] 29)) z rd ∧ Below W5.heap.size W5 (W6.alloc (.cells #[.slice z.p1.a z.p1.n z.p1.c, .slice z.p2.a z.p2.n z.p2.c, .slice z.p3.a z.p3.n z.p3.c, .slice z.p4.a z.p4.n z.p4.c] 29)) ∧ W5.heap.size ≤ W6.heap.size) := ⟨(HS5.out.1.go H6.out.2).go hn6, heap_alloc_new _ _, H6.out.1.stays hn6, H6.out.2.trans (hn6.mono H6.out.2.size), H6.out.2.size⟩
        clear hn6 H6
        go_upto_region 6 with fail
        generalize W6.alloc (.cells #[.slice z.p1.a z.p1.n z.p1.c, .slice z.p2.a z.p2.n z.p2.c, .slice z.p3.a z.p3.n z.p3.c, .slice z.p4.a z.p4.n z.p4.c] 29) = W7 at *
        generalize W6.heap.size = F at *
        have K4 : Hid (Calls Try.prog 29 #[.slice (some ⟨g, 0, none⟩) len cc, .slice a len cap] W7 fun e w' => e = .returned (.bool true) ∧ Hid (Below W7.heap.size W7 w')) := HKK.out W7 g HS7.out.1.blk HS7.out.1.bs
        go_wp2_with fail
        refine K4.out.mono ?_
        rintro e W8 ⟨rfl, H8⟩
        clear K4 HKK
        have K5 : Hid (Calls Try.prog 30 #[.slice (some ⟨g, 0, none⟩) len cc] W8 fun e w' => e = .returned (.tuple #[]) ∧ Hid (W8.grownBy w' (some g) ∧ w'.heap.size = W8.heap.size)) := HKO.out W8 g (HS7.out.1.blk.below H8.out)
        go_wp2_with fail
        refine K5.out.mono ?_
        rintro e W9 ⟨rfl, H9⟩
        clear K5 HKO
        have HA : Hid (Below w.heap.size w W9 ∧ (∀ j, W1.heap.size ≤ j → j < W2.heap.size → W9.heap[j]? = W2.heap[j]?) ∧ W7.heap.size ≤ W9.heap.size ∧ (∀ j, W1.heap.size ≤ j → j < W7.heap.size → W9.heap[j]? = W7.heap[j]?)) := by
          have hB8 := H8.out
          obtain ⟨q1, q2⟩ := H9.out
          have hz1 := HZ1.out
          have hgw := Hg.out
          have b3 := HS3.out.2.2.2.1
          have b5 := HS5.out.2.2.2.1
          have b7 := HS7.out.2.2.2.1
          have bw := HS7.out.1.bel.trans (hB8.mono HS7.out.1.bel.size)
          have h97 : ∀ j, W1.heap.size ≤ j → j < W7.heap.size → W9.heap[j]? = W7.heap[j]? := fun j h1 h2 => (q1.block j (Nat.lt_of_lt_of_le h2 hB8.size) (fun e => by have := Option.some.inj e; omega)).trans (hB8.block j h2)
          have hs3 := b3.size
          have hs5 := b5.size
          have hs7 := b7.size
          have hdd := HD.out
          have hs8 := hB8.size
          refine ⟨⟨q1.os.trans bw.os, q1.tape.trans bw.tape, q1.output.trans bw.output, by have := bw.size; omega, fun j hj => (q1.block j (by have := bw.size; omega) (fun e => by have := Option.some.inj e; omega)).trans (bw.block j hj)⟩, fun j h1 h2 => ?_, by omega, h97⟩
          exact (h97 j h1 (by omega)).trans ((b7.block j (by omega)).trans ((b5.block j (by omega)).trans (b3.block j (by omega))))
        have HZ : Hid (W1.heap.size ≤ W2.heap.size ∧ D = W2.heap.size ∧ W3.heap.size = D + 1 ∧ W3.heap.size ≤ E ∧ E < W5.heap.size ∧ W5.heap.size ≤ F ∧ F < W7.heap.size ∧ g < W1.heap.size ∧ g = w.heap.size) := by
          have hz1 := HZ1.out
          have hgw := Hg.out
          have hdd := HD.out
          have p1 := HS3.out.2.2.2.2
          have p2 := HS5.out.2.2.2.2
          have p3 := HS5.out.2.1.lt
          have p4 := HS7.out.2.2.2.2
          have p5 := HS7.out.2.1.lt
          obtain ⟨p6, p7⟩ := p1
          exact ⟨by omega, hdd, p6, p2, p3, p4, p5, by omega, hgw⟩
        have HX9 : Hid (DBlk W9 D x ∧ DRd W9 x rd ∧ DBlk W9 E y ∧ DOwn W3.heap.size W9 y rd ∧ DBlk W9 F z ∧ DOwn W5.heap.size W9 z rd) := by
          obtain ⟨a1, a2, a3, a4⟩ := HA.out
          obtain ⟨z1, z2, z3, z4, z5, z6, z7, z8, z9⟩ := HZ.out
          have b5 := HS5.out.2.2.2.1
          have b7 := HS7.out.2.2.2.1
          exact ⟨((HS3.out.2.1.same (b5.block D (by omega))).same (b7.block D (by omega))).same (a4 D (by omega) (by omega)), (HS3.out.2.2.1.keep (fun j h1 h2 => a2 j h1 h2)).rd, (HS5.out.2.1.same (b7.block E (by omega))).same (a4 E (by omega) (by omega)), (HS5.out.2.2.1.stays b7).keep (fun j h1 h2 => a4 j (by omega) h2), HS7.out.2.1.same (a4 F (by omega) (by omega)), HS7.out.2.2.1.keep (fun j h1 h2 => a4 j (by omega) h2)⟩
        have HO2 : Hid (DOwn W1.heap.size W2 x rd) := HS3.out.2.2.1
        clear HS3 HS5 HS7 H8 H9 HZ1 HD Hg HW0
        have d0 : W9.cell? ⟨D, 0, none⟩ = some (.slice x.p1.a x.p1.n x.p1.c) := HX9.out.1.box.1
        have d1 : W9.cell? ⟨D, 1, none⟩ = some (.slice x.p2.a x.p2.n x.p2.c) := HX9.out.1.box.2.1
        have d2 : W9.cell? ⟨D, 2, none⟩ = some (.slice x.p3.a x.p3.n x.p3.c) := HX9.out.1.box.2.2.1
        have d3 : W9.cell? ⟨D, 3, none⟩ = some (.slice x.p4.a x.p4.n x.p4.c) := HX9.out.1.box.2.2.2.1
        have dl := HX9.out.1.lt
        have f0 : W9.cell? ⟨F, 0, none⟩ = some (.slice z.p1.a z.p1.n z.p1.c) := HX9.out.2.2.2.2.1.box.1
        have f1 : W9.cell? ⟨F, 1, none⟩ = some (.slice z.p2.a z.p2.n z.p2.c) := HX9.out.2.2.2.2.1.box.2.1
        have f2 : W9.cell? ⟨F, 2, none⟩ = some (.slice z.p3.a z.p3.n z.p3.c) := HX9.out.2.2.2.2.1.box.2.2.1
        have f3 : W9.cell? ⟨F, 3, none⟩ = some (.slice z.p4.a z.p4.n z.p4.c) := HX9.out.2.2.2.2.1.box.2.2.2.1
        have fl := HX9.out.2.2.2.2.1.lt
        have K6 : Hid (Calls Try.prog 17 #[.agg #[.slice x.p1.a x.p1.n x.p1.c, .slice x.p2.a x.p2.n x.p2.c, .slice x.p3.a x.p3.n x.p3.c, .slice x.p4.a x.p4.n x.p4.c], .agg #[.slice z.p1.a z.p1.n z.p1.c, .slice z.p2.a z.p2.n z.p2.c, .slice z.p3.a z.p3.n z.p3.c, .slice z.p4.a z.p4.n z.p4.c]] W9 fun e w' => e = .returned (.bool true) ∧ Hid (Below W9.heap.size W9 w')) := KS.out W9 x z HX9.out.2.1 HX9.out.2.2.2.2.2.rd
        go_wp2_with fail
        refine K6.out.mono ?_
        rintro e W10 ⟨rfl, H10⟩
        clear K6 d0 d1 d2 d3 dl f0 f1 f2 f3 fl
        have HX10 : Hid (DBlk W10 D x ∧ DBlk W10 E y ∧ DOwn W3.heap.size W10 y rd ∧ DBlk W10 F z ∧ DOwn W5.heap.size W10 z rd ∧ Below w.heap.size w W10) := by
          obtain ⟨x1, x2, x3, x4, x5, x6⟩ := HX9.out
          have hb := H10.out
          exact ⟨x1.same (hb.block _ x1.lt), x3.same (hb.block _ x3.lt), x4.stays hb, x5.same (hb.block _ x5.lt), x6.stays hb, HA.out.1.trans (hb.mono HA.out.1.size)⟩
        have K7 : Hid (Calls Try.prog 25 #[.agg #[.slice x.p1.a x.p1.n x.p1.c, .slice x.p2.a x.p2.n x.p2.c, .slice x.p3.a x.p3.n x.p3.c, .slice x.p4.a x.p4.n x.p4.c]] W10 fun e w' => e = .returned (.tuple #[]) ∧ Hid (Tch W1.heap.size W2.heap.size W10 w')) := by
          obtain ⟨a1, a2, a3, a4⟩ := HA.out
          obtain ⟨z1, z2, z3, z4, z5, z6, z7, z8, z9⟩ := HZ.out
          have hb := H10.out
          exact over5b W2 W10 W1.heap.size x rd HO2.out (by have := hb.size; omega) (fun j h1 h2 => (hb.block j (by omega)).trans (a2 j h1 h2)) HNS.out
        clear HX9 HA H10 HO2
        have d0 : W10.cell? ⟨D, 0, none⟩ = some (.slice x.p1.a x.p1.n x.p1.c) := HX10.out.1.box.1
        have d1 : W10.cell? ⟨D, 1, none⟩ = some (.slice x.p2.a x.p2.n x.p2.c) := HX10.out.1.box.2.1
        have d2 : W10.cell? ⟨D, 2, none⟩ = some (.slice x.p3.a x.p3.n x.p3.c) := HX10.out.1.box.2.2.1
        have d3 : W10.cell? ⟨D, 3, none⟩ = some (.slice x.p4.a x.p4.n x.p4.c) := HX10.out.1.box.2.2.2.1
        have dl := HX10.out.1.lt
        go_wp2_with fail
        refine K7.out.mono ?_
        rintro e W11 ⟨rfl, H11⟩
        clear K7 d0 d1 d2 d3 dl
        have HX11 : Hid (DBlk W11 E y ∧ DRd W11 y rd ∧ DBlk W11 F z ∧ DRd W11 z rd ∧ Below w.heap.size w W11) := by
          obtain ⟨x1, x2, x3, x4, x5, x6⟩ := HX10.out
          have h := H11.out
          obtain ⟨z1, z2, z3, z4, z5, z6, z7, z8, z9⟩ := HZ.out
          exact ⟨x2.same (h.out E x2.lt (.inr (by omega))), (x3.keep (fun j h1 h2 => h.out j h2 (.inr (by omega)))).rd, x4.same (h.out F x4.lt (.inr (by omega))), (x5.keep (fun j h1 h2 => h.out j h2 (.inr (by omega)))).rd, ⟨h.os.trans x6.os, h.tape.trans x6.tape, h.output.trans x6.output, Nat.le_trans x6.size h.size, fun j hj => (h.out j (Nat.lt_of_lt_of_le hj x6.size) (.inl (by omega))).trans (x6.block j hj)⟩⟩
        clear HX10 H11
        have d0 : W11.cell? ⟨E, 0, none⟩ = some (.slice y.p1.a y.p1.n y.p1.c) := HX11.out.1.box.1
        have d1 : W11.cell? ⟨E, 1, none⟩ = some (.slice y.p2.a y.p2.n y.p2.c) := HX11.out.1.box.2.1
        have d2 : W11.cell? ⟨E, 2, none⟩ = some (.slice y.p3.a y.p3.n y.p3.c) := HX11.out.1.box.2.2.1
        have d3 : W11.cell? ⟨E, 3, none⟩ = some (.slice y.p4.a y.p4.n y.p4.c) := HX11.out.1.box.2.2.2.1
        have dl := HX11.out.1.lt
        have f0 : W11.cell? ⟨F, 0, none⟩ = some (.slice z.p1.a z.p1.n z.p1.c) := HX11.out.2.2.1.box.1
        have f1 : W11.cell? ⟨F, 1, none⟩ = some (.slice z.p2.a z.p2.n z.p2.c) := HX11.out.2.2.1.box.2.1
        have f2 : W11.cell? ⟨F, 2, none⟩ = some (.slice z.p3.a z.p3.n z.p3.c) := HX11.out.2.2.1.box.2.2.1
        have f3 : W11.cell? ⟨F, 3, none⟩ = some (.slice z.p4.a z.p4.n z.p4.c) := HX11.out.2.2.1.box.2.2.2.1
        have fl := HX11.out.2.2.1.lt
        have K8 : Hid (Calls Try.prog 17 #[.agg #[.slice y.p1.a y.p1.n y.p1.c, .slice y.p2.a y.p2.n y.p2.c, .slice y.p3.a y.p3.n y.p3.c, .slice y.p4.a y.p4.n y.p4.c], .agg #[.slice z.p1.a z.p1.n z.p1.c, .slice z.p2.a z.p2.n z.p2.c, .slice z.p3.a z.p3.n z.p3.c, .slice z.p4.a z.p4.n z.p4.c]] W11 fun e w' => e = .returned (.bool true) ∧ Hid (Below W11.heap.size W11 w')) := KS.out W11 y z HX11.out.2.1 HX11.out.2.2.2.1
        go_wp2_with fail
        refine K8.out.mono ?_
        rintro e W12 ⟨rfl, H12⟩
        clear K8 d0 d1 d2 d3 dl f0 f1 f2 f3 fl
        go_wp2_with fail
        go_ret
        exact ⟨rfl, HX11.out.2.2.2.2.trans (H12.out.mono HX11.out.2.2.2.2.size)⟩
  · have g3 : ¬ (65540 : Int) < (len : Int) := by omega
    have hlen : len ≤ 100000 := by omega
    have KL1 := KL.out hlen
    have KR1 := KR.out hlen
    have KF1 := KF.out hlen
    have KK1 := KK.out hlen
    have KO1 := KO.out hlen
    have HKL : Hid (Calls Try.prog 26 #[.slice a len cap] w fun e w' => e = .returned (.slice (some ⟨w.heap.size, 0, none⟩) len (len + 3)) ∧ Hid (RdS w w' w.heap.size a zs ∧ w'.heap.size = w.heap.size + 1)) := KL1
    have HKR : Hid (∀ W g, Blk W g (lent zs 3) → Calls Try.prog 27 #[.int .u16 t, .slice (some ⟨g, 0, none⟩) len (len + 3)] W (RdP (rd, rc) W)) := KR1
    have HKF : Hid (∀ W, Rd W a zs → Calls Try.prog 28 #[.int .u16 t, .slice a len cap] W (RdR (rd, rc) W)) := KF1
    have HKK : Hid (∀ W g, Blk W g (lent zs 3) → Rd W a zs → Calls Try.prog 29 #[.slice (some ⟨g, 0, none⟩) len (len + 3), .slice a len cap] W fun e w' => e = .returned (.bool true) ∧ Hid (Below W.heap.size W w')) := KK1
    have HKO : Hid (∀ W g, Blk W g (lent zs 3) → Calls Try.prog 30 #[.slice (some ⟨g, 0, none⟩) len (len + 3)] W fun e w' => e = .returned (.tuple #[]) ∧ Hid (W.grownBy w' (some g) ∧ w'.heap.size = W.heap.size)) := KO1
    clear KL1 KR1 KF1 KK1 KO1 KL KR KF KK KO hbr
    go_wp2_with fail
    refine HKL.out.mono ?_
    rintro e W1 ⟨rfl, H1⟩
    obtain ⟨g, hg⟩ : ∃ g, g = w.heap.size := ⟨_, rfl⟩
    rw [← hg] at H1 ⊢
    have Hg : Hid (g = w.heap.size) := hg
    clear hg
    have HS1 : Hid (RdS w W1 g a zs) := H1.out.1
    have HZ1 : Hid (W1.heap.size = g + 1) := H1.out.2
    clear H1 HKL
    generalize hcc : len + 3 = cc at *
    clear hcc
    have K1 : Hid (Calls Try.prog 27 #[.int .u16 t, .slice (some ⟨g, 0, none⟩) len cc] W1 (RdP (rd, rc) W1)) := HKR.out W1 g HS1.out.blk
    go_wp2_with fail
    refine K1.out.mono ?_
    rintro e W2 ⟨x, rfl, H2⟩
    clear K1
    have hn2 := new_below W2 (.cells #[.slice x.p1.a x.p1.n x.p1.c, .slice x.p2.a x.p2.n x.p2.c, .slice x.p3.a x.p3.n x.p3.c, .slice x.p4.a x.p4.n x.p4.c] 29)
    have HS3 : Hid (RdS w (W2.alloc (.cells #[.slice x.p1.a x.p1.n x.p1.c, .slice x.p2.a x.p2.n x.p2.c, .slice x.p3.a x.p3.n x.p3.c, .slice x.p4.a x.p4.n x.p4.c] 29)) g a zs ∧ DBlk (W2.alloc (.cells #[.slice x.p1.a x.p1.n x.p1.c, .slice x.p2.a x.p2.n x.p2.c, .slice x.p3.a x.p3.n x.p3.c, .slice x.p4.a x.p4.n x.p4.c] 29)) W2.heap.size x ∧ DOwn W1.heap.size W2 x rd ∧ Below W2.heap.size W2 (W2.alloc (.cells #[.slice x.p1.a x.p1.n x.p1.c, .slice x.p2.a x.p2.n x.p2.c, .slice x.p3.a x.p3.n x.p3.c, .slice x.p4.a x.p4.n x.p4.c] 29)) ∧ (W2.alloc (.cells #[.slice x.p1.a x.p1.n x.p1.c, .slice x.p2.a x.p2.n x.p2.c, .slice x.p3.a x.p3.n x.p3.c, .slice x.p4.a x.p4.n x.p4.c] 29)).heap.size = W2.heap.size + 1 ∧ W1.heap.size ≤ W2.heap.size) := ⟨(HS1.out.go H2.out.2).go hn2, heap_alloc_new _ _, H2.out.1, hn2, by simp, H2.out.2.size⟩
    clear hn2 H2 HS1
    go_upto_region 4 with fail
    generalize W2.alloc (.cells #[.slice x.p1.a x.p1.n x.p1.c, .slice x.p2.a x.p2.n x.p2.c, .slice x.p3.a x.p3.n x.p3.c, .slice x.p4.a x.p4.n x.p4.c] 29) = W3 at *
    obtain ⟨D, hD⟩ : ∃ D, D = W2.heap.size := ⟨_, rfl⟩
    rw [← hD] at HS3 ⊢
    have HD : Hid (D = W2.heap.size) := hD
    clear hD
    have K2 : Hid (Calls Try.prog 27 #[.int .u16 t, .slice (some ⟨g, 0, none⟩) len cc] W3 (RdP (rd, rc) W3)) := HKR.out W3 g HS3.out.1.blk
    go_wp2_with fail
    refine K2.out.mono ?_
    rintro e W4 ⟨y, rfl, H4⟩
    clear K2 HKR
    have hn4 := new_below W4 (.cells #[.slice y.p1.a y.p1.n y.p1.c, .slice y.p2.a y.p2.n y.p2.c, .slice y.p3.a y.p3.n y.p3.c, .slice y.p4.a y.p4.n y.p4.c] 29)
    have HS5 : Hid (RdS w (W4.alloc (.cells #[.slice y.p1.a y.p1.n y.p1.c, .slice y.p2.a y.p2.n y.p2.c, .slice y.p3.a y.p3.n y.p3.c, .slice y.p4.a y.p4.n y.p4.c] 29)) g a zs ∧ DBlk (W4.alloc (.cells #[.slice y.p1.a y.p1.n y.p1.c, .slice y.p2.a y.p2.n y.p2.c, .slice y.p3.a y.p3.n y.p3.c, .slice y.p4.a y.p4.n y.p4.c] 29)) W4.heap.size y ∧ DOwn W3.heap.size (W4.alloc (.cells #[.slice y.p1.a y.p1.n y.p1.c, .slice y.p2.a y.p2.n y.p2.c, .slice y.p3.a y.p3.n y.p3.c, .slice y.p4.a y.p4.n y.p4.c] 29)) y rd ∧ Below W3.heap.size W3 (W4.alloc (.cells #[.slice y.p1.a y.p1.n y.p1.c, .slice y.p2.a y.p2.n y.p2.c, .slice y.p3.a y.p3.n y.p3.c, .slice y.p4.a y.p4.n y.p4.c] 29)) ∧ W3.heap.size ≤ W4.heap.size) := ⟨(HS3.out.1.go H4.out.2).go hn4, heap_alloc_new _ _, H4.out.1.stays hn4, H4.out.2.trans (hn4.mono H4.out.2.size), H4.out.2.size⟩
    clear hn4 H4
    go_upto_region 5 with fail
    generalize W4.alloc (.cells #[.slice y.p1.a y.p1.n y.p1.c, .slice y.p2.a y.p2.n y.p2.c, .slice y.p3.a y.p3.n y.p3.c, .slice y.p4.a y.p4.n y.p4.c] 29) = W5 at *
    generalize W4.heap.size = E at *
    have K3 : Hid (Calls Try.prog 28 #[.int .u16 t, .slice a len cap] W5 (RdR (rd, rc) W5)) := HKF.out W5 HS5.out.1.bs
    go_wp2_with fail
    refine K3.out.mono ?_
    rintro e W6 ⟨z, rfl, H6⟩
    clear K3 HKF
    have hn6 := new_below W6 (.cells #[.slice z.p1.a z.p1.n z.p1.c, .slice z.p2.a z.p2.n z.p2.c, .slice z.p3.a z.p3.n z.p3.c, .slice z.p4.a z.p4.n z.p4.c] 29)
    have HS7 : Hid (RdS w (W6.alloc (.cells #[.slice z.p1.a z.p1.n z.p1.c, .slice z.p2.a z.p2.n z.p2.c, .slice z.p3.a z.p3.n z.p3.c, .slice z.p4.a z.p4.n z.p4.c] 29)) g a zs ∧ DBlk (W6.alloc (.cells #[.slice z.p1.a z.p1.n z.p1.c, .slice z.p2.a z.p2.n z.p2.c, .slice z.p3.a z.p3.n z.p3.c, .slice z.p4.a z.p4.n z.p4.c] 29)) W6.heap.size z ∧ DOwn W5.heap.size (W6.alloc (.cells #[.slice z.p1.a z.p1.n z.p1.c, .slice z.p2.a z.p2.n z.p2.c, .slice z.p3.a z.p3.n z.p3.c, .slice z.p4.a z.p4.n z.p4.c] 29)) z rd ∧ Below W5.heap.size W5 (W6.alloc (.cells #[.slice z.p1.a z.p1.n z.p1.c, .slice z.p2.a z.p2.n z.p2.c, .slice z.p3.a z.p3.n z.p3.c, .slice z.p4.a z.p4.n z.p4.c] 29)) ∧ W5.heap.size ≤ W6.heap.size) := ⟨(HS5.out.1.go H6.out.2).go hn6, heap_alloc_new _ _, H6.out.1.stays hn6, H6.out.2.trans (hn6.mono H6.out.2.size), H6.out.2.size⟩
    clear hn6 H6
    go_upto_region 6 with fail
    generalize W6.alloc (.cells #[.slice z.p1.a z.p1.n z.p1.c, .slice z.p2.a z.p2.n z.p2.c, .slice z.p3.a z.p3.n z.p3.c, .slice z.p4.a z.p4.n z.p4.c] 29) = W7 at *
    generalize W6.heap.size = F at *
    have K4 : Hid (Calls Try.prog 29 #[.slice (some ⟨g, 0, none⟩) len cc, .slice a len cap] W7 fun e w' => e = .returned (.bool true) ∧ Hid (Below W7.heap.size W7 w')) := HKK.out W7 g HS7.out.1.blk HS7.out.1.bs
    go_wp2_with fail
    refine K4.out.mono ?_
    rintro e W8 ⟨rfl, H8⟩
    clear K4 HKK
    have K5 : Hid (Calls Try.prog 30 #[.slice (some ⟨g, 0, none⟩) len cc] W8 fun e w' => e = .returned (.tuple #[]) ∧ Hid (W8.grownBy w' (some g) ∧ w'.heap.size = W8.heap.size)) := HKO.out W8 g (HS7.out.1.blk.below H8.out)
    go_wp2_with fail
    refine K5.out.mono ?_
    rintro e W9 ⟨rfl, H9⟩
    clear K5 HKO
    have HA : Hid (Below w.heap.size w W9 ∧ (∀ j, W1.heap.size ≤ j → j < W2.heap.size → W9.heap[j]? = W2.heap[j]?) ∧ W7.heap.size ≤ W9.heap.size ∧ (∀ j, W1.heap.size ≤ j → j < W7.heap.size → W9.heap[j]? = W7.heap[j]?)) := by
      have hB8 := H8.out
      obtain ⟨q1, q2⟩ := H9.out
      have hz1 := HZ1.out
      have hgw := Hg.out
      have b3 := HS3.out.2.2.2.1
      have b5 := HS5.out.2.2.2.1
      have b7 := HS7.out.2.2.2.1
      have bw := HS7.out.1.bel.trans (hB8.mono HS7.out.1.bel.size)
      have h97 : ∀ j, W1.heap.size ≤ j → j < W7.heap.size → W9.heap[j]? = W7.heap[j]? := fun j h1 h2 => (q1.block j (Nat.lt_of_lt_of_le h2 hB8.size) (fun e => by have := Option.some.inj e; omega)).trans (hB8.block j h2)
      have hs3 := b3.size
      have hs5 := b5.size
      have hs7 := b7.size
      have hdd := HD.out
      have hs8 := hB8.size
      refine ⟨⟨q1.os.trans bw.os, q1.tape.trans bw.tape, q1.output.trans bw.output, by have := bw.size; omega, fun j hj => (q1.block j (by have := bw.size; omega) (fun e => by have := Option.some.inj e; omega)).trans (bw.block j hj)⟩, fun j h1 h2 => ?_, by omega, h97⟩
      exact (h97 j h1 (by omega)).trans ((b7.block j (by omega)).trans ((b5.block j (by omega)).trans (b3.block j (by omega))))
    have HZ : Hid (W1.heap.size ≤ W2.heap.size ∧ D = W2.heap.size ∧ W3.heap.size = D + 1 ∧ W3.heap.size ≤ E ∧ E < W5.heap.size ∧ W5.heap.size ≤ F ∧ F < W7.heap.size ∧ g < W1.heap.size ∧ g = w.heap.size) := by
      have hz1 := HZ1.out
      have hgw := Hg.out
      have hdd := HD.out
      have p1 := HS3.out.2.2.2.2
      have p2 := HS5.out.2.2.2.2
      have p3 := HS5.out.2.1.lt
      have p4 := HS7.out.2.2.2.2
      have p5 := HS7.out.2.1.lt
      obtain ⟨p6, p7⟩ := p1
      exact ⟨by omega, hdd, p6, p2, p3, p4, p5, by omega, hgw⟩
    have HX9 : Hid (DBlk W9 D x ∧ DRd W9 x rd ∧ DBlk W9 E y ∧ DOwn W3.heap.size W9 y rd ∧ DBlk W9 F z ∧ DOwn W5.heap.size W9 z rd) := by
      obtain ⟨a1, a2, a3, a4⟩ := HA.out
      obtain ⟨z1, z2, z3, z4, z5, z6, z7, z8, z9⟩ := HZ.out
      have b5 := HS5.out.2.2.2.1
      have b7 := HS7.out.2.2.2.1
      exact ⟨((HS3.out.2.1.same (b5.block D (by omega))).same (b7.block D (by omega))).same (a4 D (by omega) (by omega)), (HS3.out.2.2.1.keep (fun j h1 h2 => a2 j h1 h2)).rd, (HS5.out.2.1.same (b7.block E (by omega))).same (a4 E (by omega) (by omega)), (HS5.out.2.2.1.stays b7).keep (fun j h1 h2 => a4 j (by omega) h2), HS7.out.2.1.same (a4 F (by omega) (by omega)), HS7.out.2.2.1.keep (fun j h1 h2 => a4 j (by omega) h2)⟩
    have HO2 : Hid (DOwn W1.heap.size W2 x rd) := HS3.out.2.2.1
    clear HS3 HS5 HS7 H8 H9 HZ1 HD Hg HW0
    have d0 : W9.cell? ⟨D, 0, none⟩ = some (.slice x.p1.a x.p1.n x.p1.c) := HX9.out.1.box.1
    have d1 : W9.cell? ⟨D, 1, none⟩ = some (.slice x.p2.a x.p2.n x.p2.c) := HX9.out.1.box.2.1
    have d2 : W9.cell? ⟨D, 2, none⟩ = some (.slice x.p3.a x.p3.n x.p3.c) := HX9.out.1.box.2.2.1
    have d3 : W9.cell? ⟨D, 3, none⟩ = some (.slice x.p4.a x.p4.n x.p4.c) := HX9.out.1.box.2.2.2.1
    have dl := HX9.out.1.lt
    have f0 : W9.cell? ⟨F, 0, none⟩ = some (.slice z.p1.a z.p1.n z.p1.c) := HX9.out.2.2.2.2.1.box.1
    have f1 : W9.cell? ⟨F, 1, none⟩ = some (.slice z.p2.a z.p2.n z.p2.c) := HX9.out.2.2.2.2.1.box.2.1
    have f2 : W9.cell? ⟨F, 2, none⟩ = some (.slice z.p3.a z.p3.n z.p3.c) := HX9.out.2.2.2.2.1.box.2.2.1
    have f3 : W9.cell? ⟨F, 3, none⟩ = some (.slice z.p4.a z.p4.n z.p4.c) := HX9.out.2.2.2.2.1.box.2.2.2.1
    have fl := HX9.out.2.2.2.2.1.lt
    have K6 : Hid (Calls Try.prog 17 #[.agg #[.slice x.p1.a x.p1.n x.p1.c, .slice x.p2.a x.p2.n x.p2.c, .slice x.p3.a x.p3.n x.p3.c, .slice x.p4.a x.p4.n x.p4.c], .agg #[.slice z.p1.a z.p1.n z.p1.c, .slice z.p2.a z.p2.n z.p2.c, .slice z.p3.a z.p3.n z.p3.c, .slice z.p4.a z.p4.n z.p4.c]] W9 fun e w' => e = .returned (.bool true) ∧ Hid (Below W9.heap.size W9 w')) := KS.out W9 x z HX9.out.2.1 HX9.out.2.2.2.2.2.rd
    go_wp2_with fail
    refine K6.out.mono ?_
    rintro e W10 ⟨rfl, H10⟩
    clear K6 d0 d1 d2 d3 dl f0 f1 f2 f3 fl
    have HX10 : Hid (DBlk W10 D x ∧ DBlk W10 E y ∧ DOwn W3.heap.size W10 y rd ∧ DBlk W10 F z ∧ DOwn W5.heap.size W10 z rd ∧ Below w.heap.size w W10) := by
      obtain ⟨x1, x2, x3, x4, x5, x6⟩ := HX9.out
      have hb := H10.out
      exact ⟨x1.same (hb.block _ x1.lt), x3.same (hb.block _ x3.lt), x4.stays hb, x5.same (hb.block _ x5.lt), x6.stays hb, HA.out.1.trans (hb.mono HA.out.1.size)⟩
    have K7 : Hid (Calls Try.prog 25 #[.agg #[.slice x.p1.a x.p1.n x.p1.c, .slice x.p2.a x.p2.n x.p2.c, .slice x.p3.a x.p3.n x.p3.c, .slice x.p4.a x.p4.n x.p4.c]] W10 fun e w' => e = .returned (.tuple #[]) ∧ Hid (Tch W1.heap.size W2.heap.size W10 w')) := by
      obtain ⟨a1, a2, a3, a4⟩ := HA.out
      obtain ⟨z1, z2, z3, z4, z5, z6, z7, z8, z9⟩ := HZ.out
      have hb := H10.out
      exact over5b W2 W10 W1.heap.size x rd HO2.out (by have := hb.size; omega) (fun j h1 h2 => (hb.block j (by omega)).trans (a2 j h1 h2)) HNS.out
    clear HX9 HA H10 HO2
    have d0 : W10.cell? ⟨D, 0, none⟩ = some (.slice x.p1.a x.p1.n x.p1.c) := HX10.out.1.box.1
    have d1 : W10.cell? ⟨D, 1, none⟩ = some (.slice x.p2.a x.p2.n x.p2.c) := HX10.out.1.box.2.1
    have d2 : W10.cell? ⟨D, 2, none⟩ = some (.slice x.p3.a x.p3.n x.p3.c) := HX10.out.1.box.2.2.1
    have d3 : W10.cell? ⟨D, 3, none⟩ = some (.slice x.p4.a x.p4.n x.p4.c) := HX10.out.1.box.2.2.2.1
    have dl := HX10.out.1.lt
    go_wp2_with fail
    refine K7.out.mono ?_
    rintro e W11 ⟨rfl, H11⟩
    clear K7 d0 d1 d2 d3 dl
    have HX11 : Hid (DBlk W11 E y ∧ DRd W11 y rd ∧ DBlk W11 F z ∧ DRd W11 z rd ∧ Below w.heap.size w W11) := by
      obtain ⟨x1, x2, x3, x4, x5, x6⟩ := HX10.out
      have h := H11.out
      obtain ⟨z1, z2, z3, z4, z5, z6, z7, z8, z9⟩ := HZ.out
      exact ⟨x2.same (h.out E x2.lt (.inr (by omega))), (x3.keep (fun j h1 h2 => h.out j h2 (.inr (by omega)))).rd, x4.same (h.out F x4.lt (.inr (by omega))), (x5.keep (fun j h1 h2 => h.out j h2 (.inr (by omega)))).rd, ⟨h.os.trans x6.os, h.tape.trans x6.tape, h.output.trans x6.output, Nat.le_trans x6.size h.size, fun j hj => (h.out j (Nat.lt_of_lt_of_le hj x6.size) (.inl (by omega))).trans (x6.block j hj)⟩⟩
    clear HX10 H11
    have d0 : W11.cell? ⟨E, 0, none⟩ = some (.slice y.p1.a y.p1.n y.p1.c) := HX11.out.1.box.1
    have d1 : W11.cell? ⟨E, 1, none⟩ = some (.slice y.p2.a y.p2.n y.p2.c) := HX11.out.1.box.2.1
    have d2 : W11.cell? ⟨E, 2, none⟩ = some (.slice y.p3.a y.p3.n y.p3.c) := HX11.out.1.box.2.2.1
    have d3 : W11.cell? ⟨E, 3, none⟩ = some (.slice y.p4.a y.p4.n y.p4.c) := HX11.out.1.box.2.2.2.1
    have dl := HX11.out.1.lt
    have f0 : W11.cell? ⟨F, 0, none⟩ = some (.slice z.p1.a z.p1.n z.p1.c) := HX11.out.2.2.1.box.1
    have f1 : W11.cell? ⟨F, 1, none⟩ = some (.slice z.p2.a z.p2.n z.p2.c) := HX11.out.2.2.1.box.2.1
    have f2 : W11.cell? ⟨F, 2, none⟩ = some (.slice z.p3.a z.p3.n z.p3.c) := HX11.out.2.2.1.box.2.2.1
    have f3 : W11.cell? ⟨F, 3, none⟩ = some (.slice z.p4.a z.p4.n z.p4.c) := HX11.out.2.2.1.box.2.2.2.1
    have fl := HX11.out.2.2.1.lt
    have K8 : Hid (Calls Try.prog 17 #[.agg #[.slice y.p1.a y.p1.n y.p1.c, .slice y.p2.a y.p2.n y.p2.c, .slice y.p3.a y.p3.n y.p3.c, .slice y.p4.a y.p4.n y.p4.c], .agg #[.slice z.p1.a z.p1.n z.p1.c, .slice z.p2.a z.p2.n z.p2.c, .slice z.p3.a z.p3.n z.p3.c, .slice z.p4.a z.p4.n z.p4.c]] W11 fun e w' => e = .returned (.bool true) ∧ Hid (Below W11.heap.size W11 w')) := KS.out W11 y z HX11.out.2.1 HX11.out.2.2.2.1
    go_wp2_with fail
    refine K8.out.mono ?_
    rintro e W12 ⟨rfl, H12⟩
    clear K8 d0 d1 d2 d3 dl f0 f1 f2 f3 fl
    go_wp2_with fail
    go_ret
    exact ⟨rfl, HX11.out.2.2.2.2.trans (H12.out.mono HX11.out.2.2.2.2.size)⟩
end Go.Proofs.Ytdeoembjfdbbkaa
