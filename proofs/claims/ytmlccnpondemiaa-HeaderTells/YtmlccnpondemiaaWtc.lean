/- Texts laid together, in parts: Xe Ya Xf Xg Vm Yb. -/
import Derived.Test.YtmlccnpondemiaaWtb
import Derived.SizedLaws
import Derived.Deep.AppendLies
import Derived.Deep.RegionLaw
import Derived.ChangeKeysEq
import Derived.Laws.StructEq
import Derived.Lib.Hide
import Derived.Deep.CutBlock
namespace Go.Proofs.Ytmlccnpondemiaa
open Go.ChangeShapes Go.WideShapes Go.ChangeAt Go.RowKit Go.Maps
set_option linter.unusedVariables false
set_option linter.unusedSimpArgs false
theorem OwR.nil (B : Nat) (w : World) : OwR B w (.slice none 0 0) [] := ⟨[], rfl, ⟨rfl, .inl ⟨rfl, rfl⟩⟩, by simp⟩
theorem cellsR_one1 (x : RA) (r : Rec) : ∀ u ∈ cellsR [(x, r)], u.oneCell' = true := by
  intro u hu
  simp [cellsR, recCells] at hu
  rcases hu with rfl | rfl | rfl | rfl | rfl | rfl | rfl | rfl <;> rfl
def Rw (r : Rec) : Prop := r.ow.length ≤ 8796093022000 ∧ Wb r.d
set_option maxRecDepth 100000 in
set_option maxHeartbeats 4000000 in
theorem copyrs23 (a : Option Addr) (n c : Nat) (rs : List Rec) (w : World) (h : RdR w a rs) (hl : rs.length = n) (hn : n ≤ 1000000000000) (hW : ∀ r ∈ rs, Rw r) :
    Calls Try.prog 23 #[.slice a n c] w fun e w' => ∃ v, e = .returned v ∧ Hid (OwR w.heap.size w' v rs ∧ Below w.heap.size w w') := by
  have HR : Hid (RdR w a rs ∧ ∀ r ∈ rs, Rw r) := ⟨h, hW⟩
  have HL : Hid (rs.length = n) := hl
  obtain ⟨i47, hi, hz0, hz1, hz2⟩ := inf69'
  have HI : Hid (Try.prog.info? 79 = some i47 ∧ i47.zero = some (.agg #[.slice none 0 0, .int .u16 0, .int .u16 0, .int .u32 0, .slice none 0 0, .slice none 0 0, .slice none 0 0, .slice none 0 0]) ∧ i47.size = 8 ∧ i47.bytes = 128) := ⟨hi, hz0, hz1, hz2⟩
  clear h hl hW hi hz0 hz1 hz2
  go_enter Try.func23, Try.ntmps23
  go_wp2_with fail
  go_loopw [3, 4] (fun v y wr => ∃ k : Nat, k ≤ n ∧ y = .int .i64 (k : Int) ∧ Hid (OwR w.heap.size wr v (rs.take k) ∧ Below w.heap.size w wr)) (fun _ y _ => n - (intOf y).toNat)
  case atStart => exact ⟨0, Nat.zero_le _, rfl, OwR.nil _ _, Below.refl _ _⟩
  case round =>
    obtain ⟨k, hk, rfl, HW⟩ := hrel
    by_cases hlt : k < n
    · have hlt' : (k : Int) < (n : Int) := by omega
      have hkl : k < rs.length := by rw [HL.out]; exact hlt
      obtain ⟨b, o, rfl, hbb, x, he, hx⟩ := (HR.out.1.below HW.out.2).at k hkl
      have KA0 := copyr39 x rs[k] wr hx (HR.out.2 _ (List.getElem_mem hkl)).1 (HR.out.2 _ (List.getElem_mem hkl)).2
      have e0 := he 0 (by omega)
      have e1 := he 1 (by omega)
      have e2 := he 2 (by omega)
      have e3 := he 3 (by omega)
      have e4 := he 4 (by omega)
      have e5 := he 5 (by omega)
      have e6 := he 6 (by omega)
      have e7 := he 7 (by omega)
      have HTK : Hid (rs.take (k + 1) = rs.take k ++ [rs[k]]) := List.take_succ_eq_append_getElem hkl
      have HTL : Hid ((rs.take k).length = k) := by show _ = _; rw [List.length_take]; omega
      clear hx he
      generalize rs[k] = r at *
      obtain ⟨⟨xa, xn, xc⟩, ⟨⟨xa1, xn1, xc1⟩, ⟨xa2, xn2, xc2⟩, ⟨xa3, xn3, xc3⟩, ⟨xa4, xn4, xc4⟩⟩⟩ := x
      obtain ⟨ow, t, cl, tt, d⟩ := r
      simp only [recCells, Nat.add_zero, List.getElem?_cons_zero, List.getElem?_cons_succ] at e0 e1 e2 e3 e4 e5 e6 e7
      have KA : Hid (Calls Try.prog 39 #[.agg #[.slice xa xn xc, .int .u16 (t : Int), .int .u16 (cl : Int), .int .u32 (tt : Int), .slice xa1 xn1 xc1, .slice xa2 xn2 xc2, .slice xa3 xn3 xc3, .slice xa4 xn4 xc4]] wr fun e w' => ∃ y : RA, e = .returned (.agg #[.slice y.o.a y.o.n y.o.c, .int .u16 (t : Int), .int .u16 (cl : Int), .int .u32 (tt : Int), .slice y.d.p1.a y.d.p1.n y.d.p1.c, .slice y.d.p2.a y.d.p2.n y.d.p2.c, .slice y.d.p3.a y.d.p3.n y.d.p3.c, .slice y.d.p4.a y.d.p4.n y.d.p4.c]) ∧ Hid (ROwx wr.heap.size w' y ⟨ow, t, cl, tt, d⟩ ∧ Below wr.heap.size wr w')) := KA0
      clear KA0
      obtain ⟨ps, hp1, hp2, hp3⟩ := HW.out.1
      have hpl : ps.length = k := by rw [← HTL.out, ← hp1]; simp
      have HP : Hid (ps.map (·.2) = rs.take k ∧ ∀ p ∈ ps, RfR w.heap.size wr u3.ownBlock p.1 p.2) := ⟨hp1, hp3⟩
      have HPO : Hid (wr.ownsRow w.heap.size 79 8 u3 ps.length (cellsR ps)) := hp2
      have HPL : Hid (ps.length = k) := hpl
      clear hp1 hp2 hp3 hpl
      go_wp2_with fail
      refine KA.out.mono ?_
      rintro e w2 ⟨⟨⟨ya, yn, yc⟩, ⟨⟨ya1, yn1, yc1⟩, ⟨ya2, yn2, yc2⟩, ⟨ya3, yn3, yc3⟩, ⟨ya4, yn4, yc4⟩⟩⟩, rfl, H2⟩
      have HB2 : Hid (Below wr.heap.size wr w2) := H2.out.2
      have HN1 := Lib.hid (one_rec w2 ⟨⟨ya, yn, yc⟩, ⟨⟨ya1, yn1, yc1⟩, ⟨ya2, yn2, yc2⟩, ⟨ya3, yn3, yc3⟩, ⟨ya4, yn4, yc4⟩⟩⟩ ⟨ow, t, cl, tt, d⟩)
      have HO : Hid ((w2.alloc (.cells (recCells ⟨⟨ya, yn, yc⟩, ⟨⟨ya1, yn1, yc1⟩, ⟨ya2, yn2, yc2⟩, ⟨ya3, yn3, yc3⟩, ⟨ya4, yn4, yc4⟩⟩⟩ ⟨ow, t, cl, tt, d⟩).toArray 79)).ownsRow w.heap.size 79 8 u3 ps.length (cellsR ps)) := (ownsRow_stays HPO.out HB2.out).alloc _
      have HBA : Hid (Below w.heap.size w (w2.alloc (.cells (recCells ⟨⟨ya, yn, yc⟩, ⟨⟨ya1, yn1, yc1⟩, ⟨ya2, yn2, yc2⟩, ⟨ya3, yn3, yc3⟩, ⟨ya4, yn4, yc4⟩⟩⟩ ⟨ow, t, cl, tt, d⟩).toArray 79))) := (HW.out.2.trans (HB2.out.mono HW.out.2.size)).trans ((new_below _ _).mono (Nat.le_trans HW.out.2.size HB2.out.size))
      have hbnd : ps.length + 1 ≤ 1000000000001 := by rw [HPL.out]; omega
      clear KA
      go_wp2_with (at_builtin; refine wpList_append_own_at _ rfl _ _ 24 rfl w.heap.size 79 i47 _ 8 128 Try.underlying24 HI.out.1 HI.out.2.1 HI.out.2.2.1 HI.out.2.2.2 rfl (by omega) _ ps.length _ rfl HO.out ⟨w2.heap.size, 0, none⟩ 1 1 (cellsR [(⟨⟨ya, yn, yc⟩, ⟨⟨ya1, yn1, yc1⟩, ⟨ya2, yn2, yc2⟩, ⟨ya3, yn3, yc3⟩, ⟨ya4, yn4, yc4⟩⟩⟩, ⟨ow, t, cl, tt, d⟩)]) rfl rfl HN1.out (cellsR_one1 _ _) (by simp only [maxLen]; omega) (by omega) HBA.out.size ?_; intro v' w' h5 h6 _ h7; have H5 := Lib.hid h5; have H6 := Lib.hid h6; have H7 := Lib.hid h7; clear h5 h6 h7)
      refine ⟨⟨k + 1, by omega, by go_num, ?_, HBA.out.grown H6.out HBA.out.size (fun g e => (HO.out.lt g e).1)⟩, by simp [intOf]; omega⟩
      rw [HTK.out, ← HP.out.1]
      exact OwR.push HP.out.2 HPO.out HW.out.2.size H2.out.1 (new_below _ _) HB2.out H5.out H6.out H7.out
    · have hge : ¬ (k : Int) < (n : Int) := by omega
      have hkn : k = n := by omega
      subst hkn
      go_wp2_with fail
      go_ret
      have hx : rs.take k = rs := List.take_of_length_le (by rw [HL.out]; exact Nat.le_refl _)
      rw [hx] at HW
      exact ⟨_, rfl, HW⟩
end Go.Proofs.Ytmlccnpondemiaa
namespace Go.Proofs.Ytmlccnpondemiaa
open Go.ChangeShapes Go.WideShapes Go.ChangeAt Go.RowKit Go.Deep
set_option linter.unusedVariables false
set_option linter.unusedSimpArgs false
set_option maxRecDepth 100000
variable {H : Type} {enc : TypeId × Value → H} {W : World} {R : Nat}
theorem weights_all {P : Program} {e : TypeId} {d : DataW H} {q : Nat} : ∀ {l : List (DataW H)}, d ∈ l → q ∈ d.weights P e → q ∈ DataW.weightsAll P e l
  | [], h, _ => by cases h
  | d0 :: l, h, hq => by
    simp only [DataW.weightsAll, List.mem_append]
    rcases List.mem_cons.1 h with rfl | h
    · exact Or.inl hq
    · exact Or.inr (weights_all h hq)
theorem weights_elem {P : Program} {t e : TypeId} {elems spare : List (DataW H)} (hu : P.underlying t = some (.slice e)) (hW : ∀ q ∈ (DataW.slice elems spare).weights P t, q ≤ R) {d : DataW H} (hd : d ∈ elems) : ∀ q ∈ d.weights P e, q ≤ R := by
  intro q hq
  refine hW q ?_
  simp only [DataW.weights, hu, List.mem_cons, List.mem_append]
  exact Or.inr (Or.inl (weights_all hd hq))
theorem fldW {t : TypeId} {fs : Array Field} {fuel : Nat} {cs : List Value} {x : DataW H × List MemPlace} (ht : Try.prog.underlying t = some (.struct fs)) (h : DataW.trod enc Try.prog W 0 (fun _ => true) true fuel t cs = some x) (hW : ∀ q ∈ x.1.weights Try.prog t, q ≤ R) (i : Nat) (f : Field) (hf : fs[i]? = some f) (k : Nat) (hk : Try.prog.cellsOf f.type = k) :
    ∃ n y, DataW.trod enc Try.prog W 0 (fun _ => true) true n f.type ((cs.drop f.offset).take k) = some y ∧ ∀ q ∈ y.1.weights Try.prog f.type, q ≤ R := by
  obtain ⟨xs, n, _, hx, _, hlen, hall⟩ := DataW.trod_struct ht h
  have := hall i f hf
  rw [hk] at this
  have hi : i < fs.size := (Array.getElem?_eq_some_iff.1 hf).1
  have hxi : i < xs.length := by rw [hlen]; exact hi
  refine ⟨n, _, this.trans (List.getElem?_eq_getElem hxi), fun q hq => hW q ?_⟩
  rw [hx]
  simp only [DataW.weights, ht]
  refine DataW.weights_mem_each (j := i) (t := f.type) (d := xs[i].1) ?_ ?_ q hq
  · rw [List.getElem?_map, Array.getElem?_toList, hf]; rfl
  · rw [List.getElem?_map, List.getElem?_eq_getElem hxi]; rfl
theorem lenW {t e : TypeId} (ht : Try.prog.underlying t = some (.slice e)) {a : Option Addr} {len cap fuel : Nat} {x : DataW H × List MemPlace} (hf : DataW.trod enc Try.prog W 0 (fun _ => true) true fuel t [Value.slice a len cap] = some x) (hW : ∀ q ∈ x.1.weights Try.prog t, q ≤ R) : len * Try.prog.bytesOf e ≤ R := by
  rcases DataW.trod_slice ht hf with ⟨hcs, _⟩ | ⟨ad, l, c, elems, rest, n, _, hcs, hx, _, hl, hm, hel, hcell, _⟩
  · simp at hcs
    obtain ⟨rfl, rfl, rfl⟩ := hcs
    omega
  · simp at hcs
    obtain ⟨rfl, rfl, rfl⟩ := hcs
    have h1 := hW (((elems.map (·.1)).length + (rest.map (·.1)).length) * Try.prog.bytesOf e) (by rw [hx]; simp [DataW.weights, ht])
    have h2 : len * Try.prog.bytesOf e ≤ ((elems.map (·.1)).length + (rest.map (·.1)).length) * Try.prog.bytesOf e := Nat.mul_le_mul_right _ (by simp only [List.length_map]; omega)
    omega
theorem elemW {t e : TypeId} (ht : Try.prog.underlying t = some (.slice e)) {a : Option Addr} {len cap fuel : Nat} {x : DataW H × List MemPlace} (hf : DataW.trod enc Try.prog W 0 (fun _ => true) true fuel t [Value.slice a len cap] = some x) (hW : ∀ q ∈ x.1.weights Try.prog t, q ≤ R) (i : Nat) (hi : i < len) :
    ∃ (ad : Addr) (n : Nat) (cs : List Value) (y : DataW H × List MemPlace), a = some ad ∧ cs.length = Try.prog.cellsOf e ∧ (∀ j, j < Try.prog.cellsOf e → W.cell? ((ad.add (i * Try.prog.cellsOf e)).add j) = cs[j]?) ∧ DataW.trod enc Try.prog W 0 (fun _ => true) true n e cs = some y ∧ ∀ q ∈ y.1.weights Try.prog e, q ≤ R := by
  rcases DataW.trod_slice ht hf with ⟨hcs, _⟩ | ⟨ad, l, c, elems, rest, n, _, hcs, hx, _, hl, hm, hel, hcell, _⟩
  · simp at hcs
    obtain ⟨rfl, rfl, rfl⟩ := hcs
    omega
  · simp at hcs
    obtain ⟨rfl, rfl, rfl⟩ := hcs
    have h1 := hcell i hi
    rw [List.getElem?_eq_getElem (by omega)] at h1
    rw [Option.bind_eq_some_iff] at h1
    obtain ⟨cs, h2, h3⟩ := h1
    obtain ⟨_, hlen, hc⟩ := World.cells?_some h2
    have hmem : (elems[i]'(by omega)).1 ∈ elems.map (·.1) := List.mem_map.2 ⟨_, List.getElem_mem _, rfl⟩
    rw [hx] at hW
    exact ⟨ad, n, cs, _, rfl, hlen, hc, h3, weights_elem ht hW hmem⟩
theorem cells9W : Try.prog.cellsOf 9 = 1 := by kernel_rfl
theorem cells46W : Try.prog.cellsOf 46 = 1 := by kernel_rfl
theorem bytes9W : Try.prog.bytesOf 9 = 16 := by kernel_rfl
theorem bytes46W : Try.prog.bytesOf 46 = 24 := by kernel_rfl
theorem bytes73W : Try.prog.bytesOf 73 = 4 := by kernel_rfl
theorem bytes5W : Try.prog.bytesOf 5 = 1 := by kernel_rfl
theorem bytes79W : Try.prog.bytesOf 79 = 128 := by kernel_rfl
theorem one_of {cs : List Value} (h : cs.length = 1) : ∃ v, cs = [v] := by
  match cs, h with
  | [v], _ => exact ⟨v, rfl⟩
theorem textsW {t : TypeId} (ht : Try.prog.underlying t = some (.slice 9)) {a : Option Addr} {len cap fuel : Nat} {x : DataW H × List MemPlace} (hf : DataW.trod enc Try.prog W 0 (fun _ => true) true fuel t [Value.slice a len cap] = some x) (hW : ∀ q ∈ x.1.weights Try.prog t, q ≤ R) {ss : List ByteArray} (hs : TRd W ⟨a, len, cap⟩ ss) : ss.length * 16 ≤ R ∧ ∀ s ∈ ss, s.size ≤ R := by
  have hl : ss.length = len := hs.len
  have h1 := lenW ht hf hW
  rw [bytes9W] at h1
  refine ⟨by rw [hl]; exact h1, fun s hm => ?_⟩
  obtain ⟨i, hi, rfl⟩ := List.getElem_of_mem hm
  obtain ⟨ad, n, cs, y, ea, hlen, hc, hy, hq⟩ := elemW ht hf hW i (by omega)
  rw [cells9W] at hlen hc
  obtain ⟨v, rfl⟩ := one_of hlen
  obtain ⟨s, e0, hy0, _⟩ := DataW.trod_string Try.underlying9 hy
  simp only [List.cons.injEq, and_true] at e0
  subst e0
  have c0 := hc 0 (by omega)
  obtain ⟨b, o, e1, _, c1⟩ := hs.rd.at i hi
  simp only at e1
  rw [ea] at e1
  cases e1
  rw [Addr.add_lit, Addr.add_lit] at c0
  simp only [Nat.mul_one, Nat.add_zero] at c0
  rw [c1] at c0
  simp only [List.length_cons, List.length_nil, Nat.zero_add, List.getElem?_cons_zero, Option.some.injEq, Value.string.injEq] at c0
  rw [hy0] at hq
  have := hq s.data.toList.length (by simp [DataW.weights])
  have h2 : s.data.toList.length = s.size := by simp
  rw [c0]
  omega
theorem namesW {a : Option Addr} {len cap fuel : Nat} {x : DataW H × List MemPlace} (hf : DataW.trod enc Try.prog W 0 (fun _ => true) true fuel 74 [Value.slice a len cap] = some x) (hW : ∀ q ∈ x.1.weights Try.prog 74, q ≤ R) {nss : List (List ByteArray)} (hs : NRd W ⟨a, len, cap⟩ nss) : nss.length * 24 ≤ R ∧ ∀ n ∈ nss, n.length * 16 ≤ R := by
  have hl : nss.length = len := hs.len
  have h1 := lenW Try.underlying74 hf hW
  rw [bytes46W] at h1
  refine ⟨by rw [hl]; exact h1, fun s hm => ?_⟩
  obtain ⟨i, hi, rfl⟩ := List.getElem_of_mem hm
  obtain ⟨ad, n, cs, y, ea, hlen, hc, hy, hq⟩ := elemW Try.underlying74 hf hW i (by omega)
  rw [cells46W] at hlen hc
  obtain ⟨v, rfl⟩ := one_of hlen
  have c0 := hc 0 (by omega)
  obtain ⟨b, o, e1, _, z, c1, hz⟩ := hs.at i hi
  simp only at e1
  rw [ea] at e1
  cases e1
  rw [Addr.add_lit, Addr.add_lit] at c0
  simp only [Nat.mul_one, Nat.add_zero] at c0
  rw [c1] at c0
  simp only [List.length_cons, List.length_nil, Nat.zero_add, List.getElem?_cons_zero, Option.some.injEq] at c0
  subst c0
  exact (textsW Try.underlying46 hy hq hz).1
theorem open_data4W {fuel : Nat} {v0 v1 v2 v3 : Value} {x : DataW H × List MemPlace} (h : DataW.trod enc Try.prog W 0 (fun _ => true) true fuel 77 [v0, v1, v2, v3] = some x) (hW : ∀ q ∈ x.1.weights Try.prog 77, q ≤ 140737488351232) :
    ∃ (x : DA) (y : Dat), v0 = .slice x.p1.a x.p1.n x.p1.c ∧ v1 = .slice x.p2.a x.p2.n x.p2.c ∧ v2 = .slice x.p3.a x.p3.n x.p3.c ∧ v3 = .slice x.p4.a x.p4.n x.p4.c ∧ DRd W x y ∧ Wb y := by
  obtain ⟨_, _, t0, b0⟩ := fldW Try.underlying77 h hW 0 _ rfl 1 (by kernel_rfl)
  obtain ⟨_, _, t1, b1⟩ := fldW Try.underlying77 h hW 1 _ rfl 1 (by kernel_rfl)
  obtain ⟨_, _, t2, b2⟩ := fldW Try.underlying77 h hW 2 _ rfl 1 (by kernel_rfl)
  obtain ⟨_, _, t3, b3⟩ := fldW Try.underlying77 h hW 3 _ rfl 1 (by kernel_rfl)
  replace t0 : DataW.trod enc Try.prog W 0 (fun _ => true) true _ 74 [v0] = some _ := t0
  replace t1 : DataW.trod enc Try.prog W 0 (fun _ => true) true _ 75 [v1] = some _ := t1
  replace t2 : DataW.trod enc Try.prog W 0 (fun _ => true) true _ 45 [v2] = some _ := t2
  replace t3 : DataW.trod enc Try.prog W 0 (fun _ => true) true _ 30 [v3] = some _ := t3
  obtain ⟨a0, n0, c0, rfl⟩ := slice_of (t := 74) (e := 46) Try.underlying74 t0
  obtain ⟨a1, n1, c1, rfl⟩ := slice_of (t := 75) (e := 73) Try.underlying75 t1
  obtain ⟨a2, n2, c2, rfl⟩ := slice_of (t := 45) (e := 9) Try.underlying45 t2
  obtain ⟨a3, n3, c3, rfl⟩ := slice_of (t := 30) (e := 5) Try.underlying30 t3
  obtain ⟨nss, h0⟩ := open_namesD t0
  obtain ⟨us, h1⟩ := open_numsD t1
  obtain ⟨ss, h2⟩ := open_texts Try.underlying45 t2
  obtain ⟨zs, h3⟩ := open_bytesD t3
  have g0 := namesW t0 b0 h0
  have g1 := lenW Try.underlying75 t1 b1
  have g2 := textsW Try.underlying45 t2 b2 h2
  have g3 := lenW Try.underlying30 t3 b3
  rw [bytes73W] at g1
  rw [bytes5W] at g3
  have l1 : us.length = n1 := h1.len
  have l3 : zs.length = n3 := h3.len
  refine ⟨⟨⟨a0, n0, c0⟩, ⟨a1, n1, c1⟩, ⟨a2, n2, c2⟩, ⟨a3, n3, c3⟩⟩, ⟨nss, us, ss, zs⟩, rfl, rfl, rfl, rfl, ⟨h0, h1, h2, h3⟩, ⟨?_, ?_, ?_, ?_, ?_, ?_⟩⟩
  · show nss.length ≤ _; omega
  · intro n hn; have := g0.2 n hn; omega
  · show us.length ≤ _; omega
  · show ss.length ≤ _; omega
  · intro s hs; have := g2.2 s hs; omega
  · show zs.length ≤ _; omega
theorem open_rec8W {fuel : Nat} {v0 v1 v2 v3 v4 v5 v6 v7 : Value} {x : DataW H × List MemPlace} (h : DataW.trod enc Try.prog W 0 (fun _ => true) true fuel 79 [v0, v1, v2, v3, v4, v5, v6, v7] = some x) (hW : ∀ q ∈ x.1.weights Try.prog 79, q ≤ 140737488351232) :
    ∃ (x : RA) (r : Rec), [v0, v1, v2, v3, v4, v5, v6, v7] = recCells x r ∧ RRd W x r ∧ Rw r := by
  obtain ⟨_, _, t0, b0⟩ := fldW Try.underlying79 h hW 0 _ rfl 1 (by kernel_rfl)
  obtain ⟨_, _, t1, _⟩ := fldW Try.underlying79 h hW 1 _ rfl 1 (by kernel_rfl)
  obtain ⟨_, _, t2, _⟩ := fldW Try.underlying79 h hW 2 _ rfl 1 (by kernel_rfl)
  obtain ⟨_, _, t3, _⟩ := fldW Try.underlying79 h hW 3 _ rfl 1 (by kernel_rfl)
  obtain ⟨_, _, t4, b4⟩ := fldW Try.underlying79 h hW 4 _ rfl 4 (by kernel_rfl)
  replace t0 : DataW.trod enc Try.prog W 0 (fun _ => true) true _ 46 [v0] = some _ := t0
  replace t1 : DataW.trod enc Try.prog W 0 (fun _ => true) true _ 47 [v1] = some _ := t1
  replace t2 : DataW.trod enc Try.prog W 0 (fun _ => true) true _ 48 [v2] = some _ := t2
  replace t3 : DataW.trod enc Try.prog W 0 (fun _ => true) true _ 73 [v3] = some _ := t3
  replace t4 : DataW.trod enc Try.prog W 0 (fun _ => true) true _ 77 [v4, v5, v6, v7] = some _ := t4
  obtain ⟨a, n, c, rfl⟩ := slice_of (t := 46) (e := 9) Try.underlying46 t0
  obtain ⟨x1, e1, _, w1⟩ := DataW.trod_int (t := 47) Try.underlying47 t1
  obtain ⟨x2, e2, _, w2⟩ := DataW.trod_int (t := 48) Try.underlying48 t2
  obtain ⟨x3, e3, _, w3⟩ := DataW.trod_int (t := 73) Try.underlying73 t3
  obtain ⟨xd, d, rfl, rfl, rfl, rfl, hd, hwb⟩ := open_data4W t4 b4
  simp only [List.cons.injEq, and_true] at e1 e2 e3
  subst e1 e2 e3
  have b1 := bounds_u16 w1
  have b2 := bounds_u16 w2
  have b3 : 0 ≤ x3 ∧ x3 ≤ 4294967295 := by have := w3; simp [Lit.wf, IntKind.min, IntKind.max, IntKind.bits, IntKind.signed] at this; omega
  obtain ⟨ss, hss⟩ := open_texts Try.underlying46 t0
  have g0 := (textsW Try.underlying46 t0 b0 hss).1
  refine ⟨⟨⟨a, n, c⟩, xd⟩, ⟨ss, x1.toNat, x2.toNat, x3.toNat, d⟩, ?_, ⟨hss, hd⟩, by show ss.length ≤ _; omega, hwb⟩
  simp only [recCells, Int.toNat_of_nonneg b1.1, Int.toNat_of_nonneg b2.1, Int.toNat_of_nonneg b3.1]
theorem cells79W : Try.prog.cellsOf 79 = 8 := by kernel_rfl
theorem open_recordsW {a : Option Addr} {len cap fuel : Nat} {x : DataW H × List MemPlace} (hf : DataW.trod enc Try.prog W 0 (fun _ => true) true fuel 24 [Value.slice a len cap] = some x) (hW : ∀ q ∈ x.1.weights Try.prog 24, q ≤ 140737488351232) : ∃ rs : List Rec, RdR W a rs ∧ rs.length = len ∧ len ≤ 1099511627744 ∧ ∀ r ∈ rs, Rw r := by
  have hlw := lenW Try.underlying24 hf hW
  rw [bytes79W] at hlw
  have hex : ∀ i, i < len → ∃ r : Rec, ∃ y : RA, ∃ ad : Addr, a = some ad ∧ (∀ j, j < 8 → W.cell? ((ad.add (i * 8)).add j) = (recCells y r)[j]?) ∧ RRd W y r ∧ Rw r := by
    intro i hi
    obtain ⟨ad, n, cs, y, ea, hlen, hc, hy, hq⟩ := elemW Try.underlying24 hf hW i hi
    rw [cells79W] at hlen hc
    match cs, hlen with
    | [v0, v1, v2, v3, v4, v5, v6, v7], _ =>
      obtain ⟨y, r, e, h4, h5⟩ := open_rec8W hy hq
      rw [e] at hc
      exact ⟨r, y, ad, ea, fun j hj => hc j hj, h4, h5⟩
  obtain ⟨rs, hlen, hrs⟩ := list_of len _ hex
  refine ⟨rs, ?_, hlen, by omega, fun r hr => ?_⟩
  · by_cases h0 : len = 0
    · left; exact List.eq_nil_of_length_eq_zero (by omega)
    · right
      obtain ⟨y0, ad, ea, hc0, _⟩ := hrs 0 (by omega)
      obtain ⟨b, off, spot⟩ := ad
      have hc00 := hc0 0 (by omega)
      have hspot : spot = none := by simpa [Addr.add] using World.cell?_spot hc00
      subst hspot
      have hlt : b < W.heap.size := by
        have := World.block_lt_of_cell? W _ hc00
        simpa [Addr.add] using this
      refine ⟨b, off, ea, hlt, fun i hi => ?_⟩
      obtain ⟨y, ad, ea2, e1, ok, _⟩ := hrs i hi
      rw [ea] at ea2
      cases ea2
      refine ⟨y, fun j hj => ?_, ok⟩
      have := e1 j hj
      rw [Addr.add_lit, Addr.add_lit] at this
      exact this
  · obtain ⟨i, hi, rfl⟩ := List.getElem_of_mem hr
    obtain ⟨_, _, _, _, _, h⟩ := hrs i hi
    exact h
theorem cells50W : Try.prog.cellsOf 50 = 3 := by kernel_rfl
theorem questsW {a : Option Addr} {len cap fuel : Nat} {x : DataW H × List MemPlace} (hf : DataW.trod enc Try.prog W 0 (fun _ => true) true fuel 23 [Value.slice a len cap] = some x) (hW : ∀ q ∈ x.1.weights Try.prog 23, q ≤ 140737488351232) {qs : List Qn} (hs : QsRd W ⟨a, len, cap⟩ qs) : ∀ q ∈ qs, q.nm.length ≤ 8796093022000 ∧ ∀ s ∈ q.nm, s.size ≤ 140737488355328 := by
  intro q hm
  have hl : qs.length = len := hs.len
  obtain ⟨i, hi, rfl⟩ := List.getElem_of_mem hm
  obtain ⟨ad, n, cs, y, ea, hlen, hc, hy, hq⟩ := elemW Try.underlying23 hf hW i (by omega)
  rw [cells50W] at hlen hc
  match cs, hlen with
  | [v0, v1, v2], _ =>
    obtain ⟨b, o, e1, _, z, c1, _, _, ok⟩ := hs.at i hi
    obtain ⟨m0, y0, t0, b0⟩ := fldW Try.underlying50 hy hq 0 _ rfl 1 (by kernel_rfl)
    replace t0 : DataW.trod enc Try.prog W 0 (fun _ => true) true _ 46 [v0] = some _ := t0
    have c0 := hc 0 (by omega)
    simp only at e1
    rw [ea] at e1
    cases e1
    rw [Addr.add_lit, Addr.add_lit] at c0
    simp only [Nat.add_zero] at c0
    rw [c1] at c0
    simp only [List.length_cons, List.length_nil, Nat.zero_add, List.getElem?_cons_zero, Option.some.injEq] at c0
    subst c0
    have g := textsW Try.underlying46 t0 b0 ok.rd
    exact ⟨by omega, fun s hs => by have := g.2 s hs; omega⟩
theorem reach_all {P : Program} {ts : List TypeId} {ds : List (DataW H)} (h : (DataW.weightsEach P ts ds).all (· ≤ reachBytes) = true) {j : Nat} {t : TypeId} {d : DataW H} (ht : ts[j]? = some t) (hd : ds[j]? = some d) : ∀ q ∈ d.weights P t, q ≤ 140737488351232 := by
  intro q hq
  have := List.all_eq_true.1 h _ (DataW.weights_mem_each ht hd q hq)
  have h2 : q ≤ reachBytes := by simpa using this
  exact Nat.le_trans h2 (by decide)
theorem open_msgW {base : Nat} {v : Value} {d : DataW H} {p : List MemPlace} (hv : Value.okWide Try.prog W .any base 26 v) (h : DataW.Trod enc Try.prog W 0 (fun _ => true) true 26 v d p) (hW : ∀ q ∈ d.weights Try.prog 26, q ≤ 140737488351232) :
    ∃ (id : Nat) (rs : Bool) (op : Int) (aa tc rd ra ad cd : Bool) (rc : Int) (a1 a2 a3 a4 : Option Addr) (n1 n2 n3 n4 k1 k2 k3 k4 : Nat), v = .agg #[.int .u16 (id : Int), .bool rs, .int .i64 op, .bool aa, .bool tc, .bool rd, .bool ra, .bool ad, .bool cd, .int .i64 rc, .slice a1 n1 k1, .slice a2 n2 k2, .slice a3 n3 k3, .slice a4 n4 k4] ∧ id < 65536 ∧
      (∃ qs, QsRd W ⟨a1, n1, k1⟩ qs ∧ ∀ q ∈ qs, q.nm.length ≤ 8796093022000 ∧ ∀ s ∈ q.nm, s.size ≤ 140737488355328) ∧ (∃ rs : List Rec, RdR W a2 rs ∧ rs.length = n2 ∧ n2 ≤ 1099511627744 ∧ ∀ r ∈ rs, Rw r) ∧ (∃ rs : List Rec, RdR W a3 rs ∧ rs.length = n3 ∧ n3 ≤ 1099511627744 ∧ ∀ r ∈ rs, Rw r) ∧ (∃ rs : List Rec, RdR W a4 rs ∧ rs.length = n4 ∧ n4 ≤ 1099511627744 ∧ ∀ r ∈ rs, Rw r) := by
  obtain ⟨id, rs, op, aa, tc, rd, ra, ad, cd, rc, a1, a2, a3, a4, n1, n2, n3, n4, k1, k2, k3, k4, rfl, hid, _⟩ := open_msg hv h
  obtain ⟨fuel, hf⟩ := h
  obtain ⟨_, _, t1, b1⟩ := fldW Try.underlying26 hf hW 10 _ rfl 1 (by kernel_rfl)
  obtain ⟨_, _, t2, b2⟩ := fldW Try.underlying26 hf hW 11 _ rfl 1 (by kernel_rfl)
  obtain ⟨_, _, t3, b3⟩ := fldW Try.underlying26 hf hW 12 _ rfl 1 (by kernel_rfl)
  obtain ⟨_, _, t4, b4⟩ := fldW Try.underlying26 hf hW 13 _ rfl 1 (by kernel_rfl)
  replace t1 : DataW.trod enc Try.prog W 0 (fun _ => true) true _ 23 [.slice a1 n1 k1] = some _ := t1
  replace t2 : DataW.trod enc Try.prog W 0 (fun _ => true) true _ 24 [.slice a2 n2 k2] = some _ := t2
  replace t3 : DataW.trod enc Try.prog W 0 (fun _ => true) true _ 24 [.slice a3 n3 k3] = some _ := t3
  replace t4 : DataW.trod enc Try.prog W 0 (fun _ => true) true _ 24 [.slice a4 n4 k4] = some _ := t4
  obtain ⟨qs, hq⟩ := open_questions t1
  exact ⟨id, rs, op, aa, tc, rd, ra, ad, cd, rc, a1, a2, a3, a4, n1, n2, n3, n4, k1, k2, k3, k4, rfl, hid, ⟨qs, hq, questsW t1 b1 hq⟩, open_recordsW t2 b2, open_recordsW t3 b3, open_recordsW t4 b4⟩
end Go.Proofs.Ytmlccnpondemiaa
namespace Go.Proofs.Ytmlccnpondemiaa
open Go.ChangeShapes Go.WideShapes Go.ChangeAt Go.RowKit
set_option linter.unusedVariables false
set_option linter.unusedSimpArgs false
def qCells (x : Sl) (r : Qn) : List Value := [.slice x.a x.n x.c, .int .u16 r.ty, .int .u16 r.cl]
def cellsQ (ps : List (Sl × Qn)) : List Value := ps.flatMap fun p => qCells p.1 p.2
theorem cellsQ_at (ps : List (Sl × Qn)) (k : Nat) (h : k < ps.length) (j : Nat) (hj : j < 3) : (cellsQ ps)[k * 3 + j]? = (qCells ps[k].1 ps[k].2)[j]? := by
  induction ps generalizing k with
  | nil => simp at h
  | cons p ws ih =>
    have hc : cellsQ (p :: ws) = qCells p.1 p.2 ++ cellsQ ws := by simp [cellsQ]
    have h8 : (qCells p.1 p.2).length = 3 := rfl
    rw [hc]
    cases k with
    | zero => rw [List.getElem?_append_left (by rw [h8]; omega)]; simp
    | succ k =>
      have := ih k (by simpa using h)
      rw [List.getElem?_append_right (by rw [h8]; omega), h8, show (k + 1) * 3 + j - 3 = k * 3 + j by omega, this]
      simp
theorem cellsQ_app (a b : List (Sl × Qn)) : cellsQ (a ++ b) = cellsQ a ++ cellsQ b := by simp [cellsQ]
theorem cellsQ_one (xs : List (Sl × Qn)) : ∀ u ∈ cellsQ xs, u.oneCell' = true := by
  intro u hu
  simp only [cellsQ, List.mem_flatMap] at hu
  obtain ⟨p, _, hu⟩ := hu
  simp [qCells] at hu
  rcases hu with rfl | rfl | rfl <;> rfl
def QRd (w : World) (x : Sl) (r : Qn) : Prop := TRd w x r.nm
def QOwx (B : Nat) (w : World) (x : Sl) (r : Qn) : Prop := Owx1 B w x r.nm
/-- A list of questions that can be read: three cells each. -/
def RdQ (w : World) (a : Option Addr) (rs : List Qn) : Prop :=
  rs = [] ∨ ∃ b o, a = some ⟨b, o, none⟩ ∧ b < w.heap.size ∧ ∀ i (h : i < rs.length), ∃ x : Sl, (∀ j (hj : j < 3), w.cell? ⟨b, o + i * 3 + j, none⟩ = (qCells x rs[i])[j]?) ∧ QRd w x rs[i]
/-- A question that can be read as long as no other block than one is written. -/
def RfQ (B : Nat) (w : World) (g : Option Nat) (x : Sl) (r : Qn) : Prop :=
  ∀ w' : World, w.heap.size ≤ w'.heap.size → (∀ j, j < w.heap.size → B ≤ j → some j ≠ g → w'.heap[j]? = w.heap[j]?) → QRd w' x r
theorem RfQ.of {B B' : Nat} {w : World} {g : Option Nat} {x : Sl} {r : Qn} (h : QOwx B' w x r) (hB : B ≤ B') (hg : ∀ k, g = some k → k < B') : RfQ B w g x r := by
  intro w' hs hb
  have hk : ∀ j, B' ≤ j → j < w.heap.size → w'.heap[j]? = w.heap[j]? := fun j h1 h2 => hb j h2 (by omega) (fun e => by have := hg j e.symm; omega)
  exact (Owx1.keep h (fun j h1 h2 _ => hk j h1 h2)).rd
theorem RfQ.go {B : Nat} {w w' : World} {g g' : Option Nat} {x : Sl} {r : Qn} (h : RfQ B w g x r) (hs : w.heap.size ≤ w'.heap.size) (hb : ∀ j, j < w.heap.size → B ≤ j → some j ≠ g → w'.heap[j]? = w.heap[j]?) (hg : ∀ j, j < w.heap.size → some j ≠ g → some j ≠ g') : RfQ B w' g' x r := by
  intro w2 hs2 hb2
  exact h w2 (Nat.le_trans hs hs2) (fun j h1 h2 h3 => (hb2 j (by omega) h2 (hg j h1 h3)).trans (hb j h1 h2 h3))
/-- A list of questions of one's own. -/
def OwQ (B : Nat) (w : World) (v : Value) (rs : List Qn) : Prop :=
  ∃ ps : List (Sl × Qn), ps.map (·.2) = rs ∧ w.ownsRow B 50 3 v ps.length (cellsQ ps) ∧ ∀ p ∈ ps, RfQ B w v.ownBlock p.1 p.2
theorem OwQ.stays {B : Nat} {w w' : World} {v : Value} {rs : List Qn} (h : OwQ B w v rs) (hb : Below w.heap.size w w') : OwQ B w' v rs := by
  obtain ⟨ps, h1, h2, h3⟩ := h
  exact ⟨ps, h1, ownsRow_stays h2 hb, fun p hp => (h3 p hp).go hb.size (fun j hj _ _ => hb.block j hj) (fun j _ h => h)⟩
theorem OwQ.mono {B B' : Nat} {w : World} {v : Value} {rs : List Qn} (h : OwQ B w v rs) (hB : B' ≤ B) : OwQ B' w v rs := by
  obtain ⟨ps, h1, h2, h3⟩ := h
  exact ⟨ps, h1, ownsRow_low h2 hB, fun p hp w' hs hb => h3 p hp w' hs (fun j e1 e2 e3 => hb j e1 (by omega) e3)⟩
theorem OwQ.rd {B : Nat} {w : World} {v : Value} {rs : List Qn} (h : OwQ B w v rs) : ∃ a c, v = .slice a rs.length c ∧ RdQ w a rs ∧ rs.length ≤ c ∧ c ≤ 9223372036854775807 ∧ (a = none → c = 0) := by
  obtain ⟨ps, rfl, h2, h3⟩ := h
  have hpl : (ps.map (·.2)).length = ps.length := by simp
  rw [hpl]
  rcases h2.2 with ⟨rfl, h0⟩ | ⟨g, cap, cur, rfl, hb, hg, k1, k2, k3, k4⟩
  · have : ps = [] := List.length_eq_zero_iff.1 h0
    subst this
    exact ⟨none, 0, rfl, .inl rfl, by simp, by omega, fun _ => rfl⟩
  · refine ⟨_, cap, rfl, .inr ⟨g, 0, rfl, (Array.getElem?_eq_some_iff.1 hg).1, fun i hi => ?_⟩, k1, by simpa only [maxLen] using k2, by simp⟩
    have hi' : i < ps.length := by simpa using hi
    have ad : ∀ j, (⟨g, 0, none⟩ : Addr).add j = ⟨g, 0 + j, none⟩ := fun j => by unfold Addr.add; split <;> simp_all
    have hgi : (ps.map (·.2))[i] = ps[i].2 := by simp
    refine ⟨ps[i].1, fun j hj => ?_, ?_⟩
    · rw [hgi]
      have e1 := cellsQ_at ps i hi' j hj
      have hlt : j < (qCells ps[i].1 ps[i].2).length := hj
      rw [List.getElem?_eq_getElem hlt] at e1 ⊢
      have := h2.cells (g := g) rfl _ _ e1
      rw [ad] at this
      rw [Nat.add_assoc]; exact this
    · rw [hgi]
      exact h3 ps[i] (List.getElem_mem _) w (Nat.le_refl _) (fun _ _ _ _ => rfl)
theorem one_qn (w : World) (x : Sl) (r : Qn) : ∀ j u, (cellsQ [(x, r)])[j]? = some u → (w.alloc (.cells (qCells x r).toArray 50)).cell? ((⟨w.heap.size, 0, none⟩ : Addr).add j) = some u := by
  intro j u hu
  have ad : (⟨w.heap.size, 0, none⟩ : Addr).add j = ⟨w.heap.size, j, none⟩ := by unfold Addr.add; split <;> simp_all
  rw [ad]
  unfold World.cell?
  rw [heap_alloc_new]
  have : cellsQ [(x, r)] = qCells x r := by simp [cellsQ]
  rw [this] at hu
  simpa using hu
/-- One more behind a list of questions. -/
theorem OwQ.push {B : Nat} {wr w2 w3 w4 : World} {v v' : Value} {ps : List (Sl × Qn)} {y : Sl} {r : Qn} (h3 : ∀ p ∈ ps, RfQ B wr v.ownBlock p.1 p.2) (hl : wr.ownsRow B 50 3 v ps.length (cellsQ ps)) (hB : B ≤ wr.heap.size) (hy : QOwx wr.heap.size w2 y r) (hb3 : Below w2.heap.size w2 w3) (hb2 : Below wr.heap.size wr w2) (h5 : w4.ownsRow B 50 3 v' (ps.length + 1) (cellsQ ps ++ cellsQ [(y, r)])) (h6 : w3.grownBy w4 v.ownBlock) (h7 : v'.ownBlock = v.ownBlock ∨ v'.ownBlock = some w3.heap.size) : OwQ B w4 v' (ps.map (·.2) ++ [r]) := by
  refine ⟨ps ++ [(y, r)], by simp, ?_, ?_⟩
  · rw [cellsQ_app, List.length_append]; exact h5
  · have s2 := hb2.size
    have s3 := hb3.size
    have s4 := h6.size
    have hlt := hl.lt
    intro p hp
    rcases List.mem_append.1 hp with hp | hp
    · refine (h3 p hp).go (by omega) (fun j e1 e2 e3 => ?_) (fun j e1 e2 => ?_)
      · rw [h6.block j (by omega) e3, hb3.block j (by omega), hb2.block j e1]
      · rcases h7 with h7 | h7
        · rw [h7]; exact e2
        · rw [h7]; intro e; injection e with e; omega
    · rw [List.mem_singleton] at hp
      subst hp
      have := RfQ.of (g := v.ownBlock) hy hB (fun k e => (hlt k e).2)
      refine this.go (by omega) (fun j e1 e2 e3 => ?_) (fun j e1 e2 => ?_)
      · rw [h6.block j (by omega) e3, hb3.block j (by omega)]
      · rcases h7 with h7 | h7
        · rw [h7]; exact e2
        · rw [h7]; intro e; injection e with e; omega
theorem OwQ.nil (B : Nat) (w : World) : OwQ B w (.slice none 0 0) [] := ⟨[], rfl, ⟨rfl, .inl ⟨rfl, rfl⟩⟩, by simp⟩
theorem OwQ.qs {B : Nat} {w : World} {v : Value} {qs : List Qn} (h : OwQ B w v qs) (hb : ∀ q ∈ qs, q.ty < 65536 ∧ q.cl < 65536) : ∃ a c, v = .slice a qs.length c ∧ QsRd w ⟨a, qs.length, c⟩ qs := by
  obtain ⟨a, c, rfl, h1, h2, h3, h4⟩ := h.rd
  refine ⟨a, c, rfl, ?_, rfl, ⟨h2, h3⟩, h4⟩
  rcases h1 with h1 | ⟨b, o, e1, e2, e3⟩
  · exact .inl h1
  · refine .inr ⟨b, o, e1, e2, fun i hi => ?_⟩
    obtain ⟨x, g1, g2⟩ := e3 i hi
    have q := hb qs[i] (List.getElem_mem hi)
    exact ⟨⟨x, qs[i].ty, qs[i].cl⟩, g1 0 (by omega), g1 1 (by omega), g1 2 (by omega), ⟨g2, rfl, rfl, q.1, q.2⟩⟩
end Go.Proofs.Ytmlccnpondemiaa
namespace Go.Proofs.Ytmlccnpondemiaa
open Go.ChangeShapes Go.WideShapes Go.ChangeAt Go.RowKit Go.Maps
set_option linter.unusedVariables false
set_option linter.unusedSimpArgs false
theorem ownsRow_keep {B : Nat} {e : TypeId} {size n : Nat} {xs : List Value} {v : Value} {w w' : World} (h : w.ownsRow B e size v n xs) (hb : ∀ j, B ≤ j → j < w.heap.size → w'.heap[j]? = w.heap[j]?) : w'.ownsRow B e size v n xs := by
  refine ⟨h.1, ?_⟩
  rcases h.2 with h0 | ⟨g, cap, cur, rfl, hbb, hg, k⟩
  · exact .inl h0
  · exact .inr ⟨g, cap, cur, rfl, hbb, (hb g hbb (Array.getElem?_eq_some_iff.1 hg).1).trans hg, k⟩
theorem OwQ.keep {B : Nat} {w w' : World} {v : Value} {qs : List Qn} (h : OwQ B w v qs) (hs : w.heap.size ≤ w'.heap.size) (hb : ∀ j, B ≤ j → j < w.heap.size → w'.heap[j]? = w.heap[j]?) : OwQ B w' v qs := by
  obtain ⟨ps, h1, h2, h3⟩ := h
  exact ⟨ps, h1, ownsRow_keep h2 hb, fun p hp => (h3 p hp).go hs (fun j hj hB _ => hb j hB hj) (fun j _ h => h)⟩
theorem OwR.keep {B : Nat} {w w' : World} {v : Value} {qs : List Rec} (h : OwR B w v qs) (hs : w.heap.size ≤ w'.heap.size) (hb : ∀ j, B ≤ j → j < w.heap.size → w'.heap[j]? = w.heap[j]?) : OwR B w' v qs := by
  obtain ⟨ps, h1, h2, h3⟩ := h
  exact ⟨ps, h1, ownsRow_keep h2 hb, fun p hp => (h3 p hp).go hs (fun j hj hB _ => hb j hB hj) (fun j _ h => h)⟩
theorem three_below (w : World) (a b c : Obj) : Below w.heap.size w (((w.alloc a).alloc b).alloc c) ∧ (((w.alloc a).alloc b).alloc c).heap[w.heap.size]? = some a ∧ (((w.alloc a).alloc b).alloc c).heap[w.heap.size + 1]? = some b ∧ (((w.alloc a).alloc b).alloc c).heap[w.heap.size + 1 + 1]? = some c ∧ (((w.alloc a).alloc b).alloc c).heap.size = w.heap.size + 1 + 1 + 1 := by
  have s1 : (w.alloc a).heap.size = w.heap.size + 1 := by simp
  have s2 : ((w.alloc a).alloc b).heap.size = w.heap.size + 1 + 1 := by simp
  have n1 := heap_alloc_new w a
  have n2 := heap_alloc_new (w.alloc a) b
  have n3 := heap_alloc_new ((w.alloc a).alloc b) c
  rw [s1] at n2
  rw [s2] at n3
  refine ⟨(((Below.refl _ w).alloc (Nat.le_refl _) _).alloc (by omega) _).alloc (by omega) _, ?_, ?_, n3, by simp⟩
  · rw [Below.heap_alloc _ _ _ (by omega), Below.heap_alloc _ _ _ (by omega)]; exact n1
  · rw [Below.heap_alloc _ _ _ (by omega)]; exact n2
theorem inf50' : ∃ i, Try.prog.info? 50 = some i ∧ i.zero = some (.agg #[.slice none 0 0, .int .u16 0, .int .u16 0]) ∧ i.size = 3 ∧ i.bytes = 32 := by
  have h : (Try.prog.info? 50).map (fun i => (i.zero, i.size, i.bytes)) = some (some (.agg #[.slice none 0 0, .int .u16 0, .int .u16 0]), 3, 32) := by kernel_rfl
  obtain ⟨i, h1, h2⟩ := Option.map_eq_some_iff.1 h
  simp only [Prod.mk.injEq] at h2
  exact ⟨i, h1, h2.1, h2.2.1, h2.2.2⟩
theorem set10 {w : World} {g : Nat} {u0 u1 u2 u3 u4 u5 u6 u7 u8 u9 u10 u11 u12 u13 : Value} {t : TypeId} (h : w.heap[g]? = some (.cells #[u0, u1, u2, u3, u4, u5, u6, u7, u8, u9, u10, u11, u12, u13] t)) (x : Value) : (w.setCell ⟨g, 10, none⟩ x).heap[g]? = some (.cells #[u0, u1, u2, u3, u4, u5, u6, u7, u8, u9, x, u11, u12, u13] t) := heap_set h 10 x
theorem set3x {w : World} {g : Nat} {u0 u1 u2 u3 u4 u5 u6 u7 u8 u9 u10 u11 u12 u13 : Value} {t : TypeId} (h : w.heap[g]? = some (.cells #[u0, u1, u2, u3, u4, u5, u6, u7, u8, u9, u10, u11, u12, u13] t)) (x11 x12 x13 : Value) : (((w.setCell ⟨g, 11, none⟩ x11).setCell ⟨g, 12, none⟩ x12).setCell ⟨g, 13, none⟩ x13).heap[g]? = some (.cells #[u0, u1, u2, u3, u4, u5, u6, u7, u8, u9, u10, x11, x12, x13] t) := by
  have h11 : (w.setCell ⟨g, 11, none⟩ x11).heap[g]? = some (.cells #[u0, u1, u2, u3, u4, u5, u6, u7, u8, u9, u10, x11, u12, u13] t) := heap_set h 11 x11
  have h12 : ((w.setCell ⟨g, 11, none⟩ x11).setCell ⟨g, 12, none⟩ x12).heap[g]? = some (.cells #[u0, u1, u2, u3, u4, u5, u6, u7, u8, u9, u10, x11, x12, u13] t) := heap_set h11 12 x12
  have h13 : (((w.setCell ⟨g, 11, none⟩ x11).setCell ⟨g, 12, none⟩ x12).setCell ⟨g, 13, none⟩ x13).heap[g]? = some (.cells #[u0, u1, u2, u3, u4, u5, u6, u7, u8, u9, u10, x11, x12, x13] t) := heap_set h12 13 x13
  exact h13
theorem set3x_below (w : World) (g : Nat) (x11 x12 x13 : Value) : Below g w (((w.setCell ⟨g, 11, none⟩ x11).setCell ⟨g, 12, none⟩ x12).setCell ⟨g, 13, none⟩ x13) :=
  (((Below.refl g w).setCell (p := ⟨g, 11, none⟩) (Nat.le_refl g) x11).setCell (p := ⟨g, 12, none⟩) (Nat.le_refl g) x12).setCell (p := ⟨g, 13, none⟩) (Nat.le_refl g) x13
theorem set3x_other (w : World) (g : Nat) (x11 x12 x13 : Value) (j : Nat) (h : j ≠ g) : (((w.setCell ⟨g, 11, none⟩ x11).setCell ⟨g, 12, none⟩ x12).setCell ⟨g, 13, none⟩ x13).heap[j]? = w.heap[j]? := by
  rw [Below.heap_setCell _ _ _ _ h, Below.heap_setCell _ _ _ _ h, Below.heap_setCell _ _ _ _ h]
theorem put14 {w : World} {g : Nat} {u0 u1 u2 u3 u4 u5 u6 u7 u8 u9 u10 u11 u12 u13 : Value} {t : TypeId} (h : w.heap[g]? = some (.cells #[u0, u1, u2, u3, u4, u5, u6, u7, u8, u9, u10, u11, u12, u13] t)) (x0 x1 x2 x3 x4 x5 x6 x7 x8 x9 x10 x11 x12 x13 : Value) : ((((((((((((((w.setCell ⟨g, 0, none⟩ x0).setCell ⟨g, 1, none⟩ x1).setCell ⟨g, 2, none⟩ x2).setCell ⟨g, 3, none⟩ x3).setCell ⟨g, 4, none⟩ x4).setCell ⟨g, 5, none⟩ x5).setCell ⟨g, 6, none⟩ x6).setCell ⟨g, 7, none⟩ x7).setCell ⟨g, 8, none⟩ x8).setCell ⟨g, 9, none⟩ x9).setCell ⟨g, 10, none⟩ x10).setCell ⟨g, 11, none⟩ x11).setCell ⟨g, 12, none⟩ x12).setCell ⟨g, 13, none⟩ x13).heap[g]? = some (.cells #[x0, x1, x2, x3, x4, x5, x6, x7, x8, x9, x10, x11, x12, x13] t) := by
  have h0 : (w.setCell ⟨g, 0, none⟩ x0).heap[g]? = some (.cells #[x0, u1, u2, u3, u4, u5, u6, u7, u8, u9, u10, u11, u12, u13] t) := heap_set h 0 x0
  have h1 : ((w.setCell ⟨g, 0, none⟩ x0).setCell ⟨g, 1, none⟩ x1).heap[g]? = some (.cells #[x0, x1, u2, u3, u4, u5, u6, u7, u8, u9, u10, u11, u12, u13] t) := heap_set h0 1 x1
  have h2 : (((w.setCell ⟨g, 0, none⟩ x0).setCell ⟨g, 1, none⟩ x1).setCell ⟨g, 2, none⟩ x2).heap[g]? = some (.cells #[x0, x1, x2, u3, u4, u5, u6, u7, u8, u9, u10, u11, u12, u13] t) := heap_set h1 2 x2
  have h3 : ((((w.setCell ⟨g, 0, none⟩ x0).setCell ⟨g, 1, none⟩ x1).setCell ⟨g, 2, none⟩ x2).setCell ⟨g, 3, none⟩ x3).heap[g]? = some (.cells #[x0, x1, x2, x3, u4, u5, u6, u7, u8, u9, u10, u11, u12, u13] t) := heap_set h2 3 x3
  have h4 : (((((w.setCell ⟨g, 0, none⟩ x0).setCell ⟨g, 1, none⟩ x1).setCell ⟨g, 2, none⟩ x2).setCell ⟨g, 3, none⟩ x3).setCell ⟨g, 4, none⟩ x4).heap[g]? = some (.cells #[x0, x1, x2, x3, x4, u5, u6, u7, u8, u9, u10, u11, u12, u13] t) := heap_set h3 4 x4
  have h5 : ((((((w.setCell ⟨g, 0, none⟩ x0).setCell ⟨g, 1, none⟩ x1).setCell ⟨g, 2, none⟩ x2).setCell ⟨g, 3, none⟩ x3).setCell ⟨g, 4, none⟩ x4).setCell ⟨g, 5, none⟩ x5).heap[g]? = some (.cells #[x0, x1, x2, x3, x4, x5, u6, u7, u8, u9, u10, u11, u12, u13] t) := heap_set h4 5 x5
  have h6 : (((((((w.setCell ⟨g, 0, none⟩ x0).setCell ⟨g, 1, none⟩ x1).setCell ⟨g, 2, none⟩ x2).setCell ⟨g, 3, none⟩ x3).setCell ⟨g, 4, none⟩ x4).setCell ⟨g, 5, none⟩ x5).setCell ⟨g, 6, none⟩ x6).heap[g]? = some (.cells #[x0, x1, x2, x3, x4, x5, x6, u7, u8, u9, u10, u11, u12, u13] t) := heap_set h5 6 x6
  have h7 : ((((((((w.setCell ⟨g, 0, none⟩ x0).setCell ⟨g, 1, none⟩ x1).setCell ⟨g, 2, none⟩ x2).setCell ⟨g, 3, none⟩ x3).setCell ⟨g, 4, none⟩ x4).setCell ⟨g, 5, none⟩ x5).setCell ⟨g, 6, none⟩ x6).setCell ⟨g, 7, none⟩ x7).heap[g]? = some (.cells #[x0, x1, x2, x3, x4, x5, x6, x7, u8, u9, u10, u11, u12, u13] t) := heap_set h6 7 x7
  have h8 : (((((((((w.setCell ⟨g, 0, none⟩ x0).setCell ⟨g, 1, none⟩ x1).setCell ⟨g, 2, none⟩ x2).setCell ⟨g, 3, none⟩ x3).setCell ⟨g, 4, none⟩ x4).setCell ⟨g, 5, none⟩ x5).setCell ⟨g, 6, none⟩ x6).setCell ⟨g, 7, none⟩ x7).setCell ⟨g, 8, none⟩ x8).heap[g]? = some (.cells #[x0, x1, x2, x3, x4, x5, x6, x7, x8, u9, u10, u11, u12, u13] t) := heap_set h7 8 x8
  have h9 : ((((((((((w.setCell ⟨g, 0, none⟩ x0).setCell ⟨g, 1, none⟩ x1).setCell ⟨g, 2, none⟩ x2).setCell ⟨g, 3, none⟩ x3).setCell ⟨g, 4, none⟩ x4).setCell ⟨g, 5, none⟩ x5).setCell ⟨g, 6, none⟩ x6).setCell ⟨g, 7, none⟩ x7).setCell ⟨g, 8, none⟩ x8).setCell ⟨g, 9, none⟩ x9).heap[g]? = some (.cells #[x0, x1, x2, x3, x4, x5, x6, x7, x8, x9, u10, u11, u12, u13] t) := heap_set h8 9 x9
  have h10 : (((((((((((w.setCell ⟨g, 0, none⟩ x0).setCell ⟨g, 1, none⟩ x1).setCell ⟨g, 2, none⟩ x2).setCell ⟨g, 3, none⟩ x3).setCell ⟨g, 4, none⟩ x4).setCell ⟨g, 5, none⟩ x5).setCell ⟨g, 6, none⟩ x6).setCell ⟨g, 7, none⟩ x7).setCell ⟨g, 8, none⟩ x8).setCell ⟨g, 9, none⟩ x9).setCell ⟨g, 10, none⟩ x10).heap[g]? = some (.cells #[x0, x1, x2, x3, x4, x5, x6, x7, x8, x9, x10, u11, u12, u13] t) := heap_set h9 10 x10
  have h11 : ((((((((((((w.setCell ⟨g, 0, none⟩ x0).setCell ⟨g, 1, none⟩ x1).setCell ⟨g, 2, none⟩ x2).setCell ⟨g, 3, none⟩ x3).setCell ⟨g, 4, none⟩ x4).setCell ⟨g, 5, none⟩ x5).setCell ⟨g, 6, none⟩ x6).setCell ⟨g, 7, none⟩ x7).setCell ⟨g, 8, none⟩ x8).setCell ⟨g, 9, none⟩ x9).setCell ⟨g, 10, none⟩ x10).setCell ⟨g, 11, none⟩ x11).heap[g]? = some (.cells #[x0, x1, x2, x3, x4, x5, x6, x7, x8, x9, x10, x11, u12, u13] t) := heap_set h10 11 x11
  have h12 : (((((((((((((w.setCell ⟨g, 0, none⟩ x0).setCell ⟨g, 1, none⟩ x1).setCell ⟨g, 2, none⟩ x2).setCell ⟨g, 3, none⟩ x3).setCell ⟨g, 4, none⟩ x4).setCell ⟨g, 5, none⟩ x5).setCell ⟨g, 6, none⟩ x6).setCell ⟨g, 7, none⟩ x7).setCell ⟨g, 8, none⟩ x8).setCell ⟨g, 9, none⟩ x9).setCell ⟨g, 10, none⟩ x10).setCell ⟨g, 11, none⟩ x11).setCell ⟨g, 12, none⟩ x12).heap[g]? = some (.cells #[x0, x1, x2, x3, x4, x5, x6, x7, x8, x9, x10, x11, x12, u13] t) := heap_set h11 12 x12
  have h13 : ((((((((((((((w.setCell ⟨g, 0, none⟩ x0).setCell ⟨g, 1, none⟩ x1).setCell ⟨g, 2, none⟩ x2).setCell ⟨g, 3, none⟩ x3).setCell ⟨g, 4, none⟩ x4).setCell ⟨g, 5, none⟩ x5).setCell ⟨g, 6, none⟩ x6).setCell ⟨g, 7, none⟩ x7).setCell ⟨g, 8, none⟩ x8).setCell ⟨g, 9, none⟩ x9).setCell ⟨g, 10, none⟩ x10).setCell ⟨g, 11, none⟩ x11).setCell ⟨g, 12, none⟩ x12).setCell ⟨g, 13, none⟩ x13).heap[g]? = some (.cells #[x0, x1, x2, x3, x4, x5, x6, x7, x8, x9, x10, x11, x12, x13] t) := heap_set h12 13 x13
  exact h13
theorem put14_below (w : World) (g : Nat) (x0 x1 x2 x3 x4 x5 x6 x7 x8 x9 x10 x11 x12 x13 : Value) : Below g w ((((((((((((((w.setCell ⟨g, 0, none⟩ x0).setCell ⟨g, 1, none⟩ x1).setCell ⟨g, 2, none⟩ x2).setCell ⟨g, 3, none⟩ x3).setCell ⟨g, 4, none⟩ x4).setCell ⟨g, 5, none⟩ x5).setCell ⟨g, 6, none⟩ x6).setCell ⟨g, 7, none⟩ x7).setCell ⟨g, 8, none⟩ x8).setCell ⟨g, 9, none⟩ x9).setCell ⟨g, 10, none⟩ x10).setCell ⟨g, 11, none⟩ x11).setCell ⟨g, 12, none⟩ x12).setCell ⟨g, 13, none⟩ x13) :=
  ((((((((((((((Below.refl g w).setCell (p := ⟨g, 0, none⟩) (Nat.le_refl g) x0).setCell (p := ⟨g, 1, none⟩) (Nat.le_refl g) x1).setCell (p := ⟨g, 2, none⟩) (Nat.le_refl g) x2).setCell (p := ⟨g, 3, none⟩) (Nat.le_refl g) x3).setCell (p := ⟨g, 4, none⟩) (Nat.le_refl g) x4).setCell (p := ⟨g, 5, none⟩) (Nat.le_refl g) x5).setCell (p := ⟨g, 6, none⟩) (Nat.le_refl g) x6).setCell (p := ⟨g, 7, none⟩) (Nat.le_refl g) x7).setCell (p := ⟨g, 8, none⟩) (Nat.le_refl g) x8).setCell (p := ⟨g, 9, none⟩) (Nat.le_refl g) x9).setCell (p := ⟨g, 10, none⟩) (Nat.le_refl g) x10).setCell (p := ⟨g, 11, none⟩) (Nat.le_refl g) x11).setCell (p := ⟨g, 12, none⟩) (Nat.le_refl g) x12).setCell (p := ⟨g, 13, none⟩) (Nat.le_refl g) x13
theorem put14_other (w : World) (g : Nat) (x0 x1 x2 x3 x4 x5 x6 x7 x8 x9 x10 x11 x12 x13 : Value) (j : Nat) (h : j ≠ g) : ((((((((((((((w.setCell ⟨g, 0, none⟩ x0).setCell ⟨g, 1, none⟩ x1).setCell ⟨g, 2, none⟩ x2).setCell ⟨g, 3, none⟩ x3).setCell ⟨g, 4, none⟩ x4).setCell ⟨g, 5, none⟩ x5).setCell ⟨g, 6, none⟩ x6).setCell ⟨g, 7, none⟩ x7).setCell ⟨g, 8, none⟩ x8).setCell ⟨g, 9, none⟩ x9).setCell ⟨g, 10, none⟩ x10).setCell ⟨g, 11, none⟩ x11).setCell ⟨g, 12, none⟩ x12).setCell ⟨g, 13, none⟩ x13).heap[j]? = w.heap[j]? := by
  rw [Below.heap_setCell _ _ _ _ h, Below.heap_setCell _ _ _ _ h, Below.heap_setCell _ _ _ _ h, Below.heap_setCell _ _ _ _ h, Below.heap_setCell _ _ _ _ h, Below.heap_setCell _ _ _ _ h, Below.heap_setCell _ _ _ _ h, Below.heap_setCell _ _ _ _ h, Below.heap_setCell _ _ _ _ h, Below.heap_setCell _ _ _ _ h, Below.heap_setCell _ _ _ _ h, Below.heap_setCell _ _ _ _ h, Below.heap_setCell _ _ _ _ h, Below.heap_setCell _ _ _ _ h]
set_option maxRecDepth 100000 in
set_option maxHeartbeats 4000000 in
theorem copym9 (id : Nat) (rs : Bool) (op : Int) (aa tc rd ra ad cd : Bool) (rc : Int) (a1 a2 a3 a4 : Option Addr) (n1 n2 n3 n4 c1 c2 c3 c4 : Nat) (qs : List Qn) (r2 r3 r4 : List Rec) (w : World)
    (h1 : QsRd w ⟨a1, n1, c1⟩ qs) (hn1 : n1 ≤ 1000) (hq : ∀ q ∈ qs, q.nm.length ≤ 8796093022000)
    (h2 : RdR w a2 r2) (l2 : r2.length = n2) (hn2 : n2 ≤ 1000000000000) (w2 : ∀ r ∈ r2, Rw r)
    (h3 : RdR w a3 r3) (l3 : r3.length = n3) (hn3 : n3 ≤ 1000000000000) (w3 : ∀ r ∈ r3, Rw r)
    (h4 : RdR w a4 r4) (l4 : r4.length = n4) (hn4 : n4 ≤ 1000000000000) (w4 : ∀ r ∈ r4, Rw r) :
    Calls Try.prog 9 #[.agg #[.int .u16 (id : Int), .bool rs, .int .i64 op, .bool aa, .bool tc, .bool rd, .bool ra, .bool ad, .bool cd, .int .i64 rc, .slice a1 n1 c1, .slice a2 n2 c2, .slice a3 n3 c3, .slice a4 n4 c4]] w fun e w' => ∃ v1 v2 v3 v4, e = .returned (.agg #[.int .u16 (id : Int), .bool rs, .int .i64 op, .bool aa, .bool tc, .bool rd, .bool ra, .bool ad, .bool cd, .int .i64 rc, v1, v2, v3, v4]) ∧ Hid (OwQ w.heap.size w' v1 qs ∧ OwR w.heap.size w' v2 r2 ∧ OwR w.heap.size w' v3 r3 ∧ OwR w.heap.size w' v4 r4 ∧ Below w.heap.size w w') := by
  have HQ : Hid (QsRd w ⟨a1, n1, c1⟩ qs ∧ qs.length = n1 ∧ ∀ q ∈ qs, q.nm.length ≤ 8796093022000) := ⟨h1, h1.len, hq⟩
  have K2 : Hid (∀ W, Below w.heap.size w W → Calls Try.prog 23 #[.slice a2 n2 c2] W fun e w' => ∃ v, e = .returned v ∧ Hid (OwR W.heap.size w' v r2 ∧ Below W.heap.size W w')) := fun W hb => copyrs23 a2 n2 c2 r2 W (h2.below hb) l2 hn2 w2
  have K3 : Hid (∀ W, Below w.heap.size w W → Calls Try.prog 23 #[.slice a3 n3 c3] W fun e w' => ∃ v, e = .returned v ∧ Hid (OwR W.heap.size w' v r3 ∧ Below W.heap.size W w')) := fun W hb => copyrs23 a3 n3 c3 r3 W (h3.below hb) l3 hn3 w3
  have K4 : Hid (∀ W, Below w.heap.size w W → Calls Try.prog 23 #[.slice a4 n4 c4] W fun e w' => ∃ v, e = .returned v ∧ Hid (OwR W.heap.size w' v r4 ∧ Below W.heap.size W w')) := fun W hb => copyrs23 a4 n4 c4 r4 W (h4.below hb) l4 hn4 w4
  clear h1 hq h2 l2 hn2 w2 h3 l3 hn3 w3 h4 l4 hn4 w4
  obtain ⟨i50, hi, hz0, hz1, hz2⟩ := inf50'
  have HI : Hid (Try.prog.info? 50 = some i50 ∧ i50.zero = some (.agg #[.slice none 0 0, .int .u16 0, .int .u16 0]) ∧ i50.size = 3 ∧ i50.bytes = 32) := ⟨hi, hz0, hz1, hz2⟩
  clear hi hz0 hz1 hz2
  have HT := Lib.hid (three_below w (.cells #[.int .u16 (id : Int), .bool rs, .int .i64 op, .bool aa, .bool tc, .bool rd, .bool ra, .bool ad, .bool cd, .int .i64 rc, .slice a1 n1 c1, .slice a2 n2 c2, .slice a3 n3 c3, .slice a4 n4 c4] 26) (.cells #[.int .u16 0, .bool false, .int .i64 0, .bool false, .bool false, .bool false, .bool false, .bool false, .bool false, .int .i64 0, .slice none 0 0, .slice none 0 0, .slice none 0 0, .slice none 0 0] 26) (.cells #[.int .u16 (id : Int), .bool rs, .int .i64 op, .bool aa, .bool tc, .bool rd, .bool ra, .bool ad, .bool cd, .int .i64 rc, .slice none 0 0, .slice a2 n2 c2, .slice a3 n3 c3, .slice a4 n4 c4] 26))
  go_enter Try.func9, Try.ntmps9
  go_wp2_with fail
  generalize ((w.alloc (.cells #[.int .u16 (id : Int), .bool rs, .int .i64 op, .bool aa, .bool tc, .bool rd, .bool ra, .bool ad, .bool cd, .int .i64 rc, .slice a1 n1 c1, .slice a2 n2 c2, .slice a3 n3 c3, .slice a4 n4 c4] 26)).alloc (.cells #[.int .u16 0, .bool false, .int .i64 0, .bool false, .bool false, .bool false, .bool false, .bool false, .bool false, .int .i64 0, .slice none 0 0, .slice none 0 0, .slice none 0 0, .slice none 0 0] 26)).alloc (.cells #[.int .u16 (id : Int), .bool rs, .int .i64 op, .bool aa, .bool tc, .bool rd, .bool ra, .bool ad, .bool cd, .int .i64 rc, .slice none 0 0, .slice a2 n2 c2, .slice a3 n3 c3, .slice a4 n4 c4] 26) = W0 at *
  obtain ⟨B, hB⟩ : ∃ B, w.heap.size = B := ⟨_, rfl⟩
  have HBB : Hid (w.heap.size = B) := hB
  have HW0 : Hid (Below B w W0 ∧ W0.heap[B]? = some (.cells #[.int .u16 (id : Int), .bool rs, .int .i64 op, .bool aa, .bool tc, .bool rd, .bool ra, .bool ad, .bool cd, .int .i64 rc, .slice a1 n1 c1, .slice a2 n2 c2, .slice a3 n3 c3, .slice a4 n4 c4] 26) ∧ W0.heap[B + 1]? = some (.cells #[.int .u16 0, .bool false, .int .i64 0, .bool false, .bool false, .bool false, .bool false, .bool false, .bool false, .int .i64 0, .slice none 0 0, .slice none 0 0, .slice none 0 0, .slice none 0 0] 26) ∧ W0.heap[B + 1 + 1]? = some (.cells #[.int .u16 (id : Int), .bool rs, .int .i64 op, .bool aa, .bool tc, .bool rd, .bool ra, .bool ad, .bool cd, .int .i64 rc, .slice none 0 0, .slice a2 n2 c2, .slice a3 n3 c3, .slice a4 n4 c4] 26) ∧ W0.heap.size = B + 1 + 1 + 1) := by
    have := HT.out
    rw [hB] at this
    exact this
  clear HT
  rw [hB]
  clear hB
  go_loopw [4] (fun y wr => ∃ (k : Nat) (v : Value), k ≤ n1 ∧ y = .int .i64 (k : Int) ∧ Hid (wr.heap[B + 1 + 1]? = some (.cells #[.int .u16 (id : Int), .bool rs, .int .i64 op, .bool aa, .bool tc, .bool rd, .bool ra, .bool ad, .bool cd, .int .i64 rc, v, .slice a2 n2 c2, .slice a3 n3 c3, .slice a4 n4 c4] 26) ∧ OwQ (B + 1 + 1 + 1) wr v (qs.take k) ∧ Below (B + 1 + 1) W0 wr)) (fun y _ => n1 - (intOf y).toNat)
  case atStart => exact ⟨0, _, Nat.zero_le _, rfl, HW0.out.2.2.2.1, OwQ.nil _ _, Below.refl _ _⟩
  case round =>
    obtain ⟨k, v, hk, rfl, HW⟩ := hrel
    have HBW : Hid (wr.heap[B]? = some (.cells #[.int .u16 (id : Int), .bool rs, .int .i64 op, .bool aa, .bool tc, .bool rd, .bool ra, .bool ad, .bool cd, .int .i64 rc, .slice a1 n1 c1, .slice a2 n2 c2, .slice a3 n3 c3, .slice a4 n4 c4] 26) ∧ Below B w wr ∧ B + 1 + 1 + 1 ≤ wr.heap.size ∧ wr.heap[B + 1]? = some (.cells #[.int .u16 0, .bool false, .int .i64 0, .bool false, .bool false, .bool false, .bool false, .bool false, .bool false, .int .i64 0, .slice none 0 0, .slice none 0 0, .slice none 0 0, .slice none 0 0] 26)) := by
      have hb := HW.out.2.2
      have hs := HW0.out.2.2.2.2
      exact ⟨(hb.block B (by omega)).trans HW0.out.2.1, HW0.out.1.trans (hb.mono (by omega)), by have := hb.size; omega, (hb.block (B + 1) (by omega)).trans HW0.out.2.2.1⟩
    have cB : wr.cell? ⟨B, 10, none⟩ = some (.slice a1 n1 c1) := cell_of_block HBW.out.1 rfl
    have lB := block_lt HBW.out.1
    have lG := block_lt HW.out.1
    by_cases hlt : k < n1
    · have hlt' : (k : Int) < (n1 : Int) := by omega
      have hkl : k < qs.length := by rw [HQ.out.2.1]; exact hlt
      obtain ⟨b1, o1, e1, hbb, x, q1, q2, q3, ok⟩ := HQ.out.1.at k hkl
      simp only at e1
      subst e1
      have hb1B : b1 < B := by rw [← HBB.out]; exact hbb
      have hwr : Below w.heap.size w wr := by rw [HBB.out]; exact HBW.out.2.1
      have HK6 : Hid (∀ W, Below w.heap.size w W → Calls Try.prog 22 #[.agg #[.slice x.s.a x.s.n x.s.c, .int .u16 (qs[k].ty : Int), .int .u16 (qs[k].cl : Int)]] W fun e w' => ∃ s5 : Sl, e = .returned (.agg #[.slice s5.a s5.n s5.c, .int .u16 (qs[k].ty : Int), .int .u16 (qs[k].cl : Int)]) ∧ Hid (Owx1 W.heap.size w' s5 qs[k].nm ∧ Below W.heap.size W w')) := fun W hb => copyq22 x.s qs[k].nm qs[k].ty qs[k].cl W (ok.rd.below hb) (HQ.out.2.2 _ (List.getElem_mem hkl))
      have KC : Hid (Calls Try.prog 22 #[.agg #[.slice x.s.a x.s.n x.s.c, .int .u16 (qs[k].ty : Int), .int .u16 (qs[k].cl : Int)]] wr.drew fun e w' => ∃ s5 : Sl, e = .returned (.agg #[.slice s5.a s5.n s5.c, .int .u16 (qs[k].ty : Int), .int .u16 (qs[k].cl : Int)]) ∧ Hid (Owx1 wr.heap.size w' s5 qs[k].nm ∧ Below wr.heap.size wr w')) := (HK6.out wr.drew hwr.drew).mono fun e w' h => by
        obtain ⟨s5, e5, H5⟩ := h
        exact ⟨s5, e5, H5.out.1, ((Below.refl wr.heap.size wr).drew).trans H5.out.2⟩
      rw [ok.ty] at q2
      rw [ok.cl] at q3
      have HTK : Hid (qs.take (k + 1) = qs.take k ++ [qs[k]]) := List.take_succ_eq_append_getElem hkl
      have HTL : Hid ((qs.take k).length = k) := by show _ = _; rw [List.length_take]; omega
      clear ok HK6
      generalize qs[k] = qk at *
      obtain ⟨nm, t, cl⟩ := qk
      obtain ⟨⟨xa, xn, xc⟩, xt, xl⟩ := x
      simp only at KC q1 q2 q3
      have KS : Hid (∀ W : World, (∀ j, j < B + 1 + 1 → W.heap[j]? = wr.heap[j]?) → W.cell? ⟨B, 10, none⟩ = some (.slice (some ⟨b1, o1, none⟩) n1 c1) ∧ W.cell? ⟨b1, o1 + k * 3, none⟩ = some (.slice xa xn xc) ∧ W.cell? ⟨b1, o1 + k * 3 + 1, none⟩ = some (.int .u16 (t : Int)) ∧ W.cell? ⟨b1, o1 + k * 3 + 2, none⟩ = some (.int .u16 (cl : Int))) := fun W h => by
        have g1 : ∀ p : Addr, p.block < B → W.cell? p = w.cell? p := fun p hp => by
          have e1 : W.heap[p.block]? = wr.heap[p.block]? := h p.block (by omega)
          have e2 : wr.heap[p.block]? = w.heap[p.block]? := HBW.out.2.1.block p.block hp
          exact World.cell?_of_block (w := w) (e1.trans e2)
        exact ⟨cell_of_block ((h B (by omega)).trans HBW.out.1) rfl, (g1 _ hb1B).trans q1, (g1 _ hb1B).trans q2, (g1 _ hb1B).trans q3⟩
      have c10 : wr.drew.cell? ⟨B + 1 + 1, 10, none⟩ = some v := cell_of_block (W := wr.drew) HW.out.1 rfl
      obtain ⟨ps, hp1, hp2, hp3⟩ := HW.out.2.1
      have hpl : ps.length = k := by rw [← HTL.out, ← hp1]; simp
      have HP : Hid (ps.map (·.2) = qs.take k ∧ ∀ p ∈ ps, RfQ (B + 1 + 1 + 1) wr v.ownBlock p.1 p.2) := ⟨hp1, hp3⟩
      have HPO : Hid (wr.ownsRow (B + 1 + 1 + 1) 50 3 v ps.length (cellsQ ps)) := hp2
      have HPL : Hid (ps.length = k) := hpl
      have hbnd : ps.length ≤ 1000 := by omega
      have H6A : Hid (∀ W, Below wr.heap.size wr W → W.heap[B + 1 + 1]? = some (.cells #[.int .u16 (id : Int), .bool rs, .int .i64 op, .bool aa, .bool tc, .bool rd, .bool ra, .bool ad, .bool cd, .int .i64 rc, v, .slice a2 n2 c2, .slice a3 n3 c3, .slice a4 n4 c4] 26) ∧ (∀ j, j < B + 1 + 1 → W.heap[j]? = wr.heap[j]?) ∧ B + 1 + 1 + 1 ≤ W.heap.size) := fun W hb => ⟨(hb.block _ (by have := HBW.out.2.2.1; omega)).trans HW.out.1, fun j hj => hb.block j (by have := HBW.out.2.2.1; omega), Nat.le_trans HBW.out.2.2.1 hb.size⟩
      have H7A : Hid (∀ W W' : World, Below wr.heap.size wr W → W.grownBy W' v.ownBlock → W'.heap[B + 1 + 1]? = some (.cells #[.int .u16 (id : Int), .bool rs, .int .i64 op, .bool aa, .bool tc, .bool rd, .bool ra, .bool ad, .bool cd, .int .i64 rc, v, .slice a2 n2 c2, .slice a3 n3 c3, .slice a4 n4 c4] 26) ∧ (∀ j, j < B + 1 + 1 → W'.heap[j]? = wr.heap[j]?) ∧ B + 1 + 1 + 1 ≤ W'.heap.size ∧ Below (B + 1 + 1) wr W') := fun W W' hb hg => by
        have hlt := HPO.out.lt
        have s1 := HBW.out.2.2.1
        have s2 := hb.size
        have s3 := hg.size
        have hne : ∀ j, j < B + 1 + 1 + 1 → some j ≠ v.ownBlock := fun j hj e => by have := hlt _ e.symm; omega
        obtain ⟨g1, g2, g3⟩ := H6A.out W hb
        refine ⟨(hg.block _ (by omega) (hne _ (by omega))).trans g1, fun j hj => (hg.block _ (by omega) (hne _ (by omega))).trans (g2 j hj), by omega, ?_⟩
        exact (hb.mono (by omega)).grown hg (by omega) (fun g e => by have := hlt g e; omega)
      clear hp1 hp2 hp3 hpl q1 q2 q3 hwr
      have hx0 := HBW.out.2.2.1
      go_wp2_with fail
      obtain ⟨t1, t2, t3, t4⟩ := KS.out wr.drew (fun _ _ => rfl)
      go_region_law (first
        | (go_simp; go_at_call 22; refine KC.out.mono ?_; rintro e w6 ⟨⟨ya, yn, yc⟩, rfl, HC⟩; have H6 := Lib.hid (H6A.out w6 HC.out.2); have d10 : w6.cell? ⟨B + 1 + 1, 10, none⟩ = some v := (cell_of_block H6.out.1 rfl); have l6 : B + 1 + 1 + 1 ≤ w6.heap.size := H6.out.2.2; have d11 : (w6.alloc (.cells #[.slice ya yn yc, .int .u16 (t : Int), .int .u16 (cl : Int)] 50)).cell? ⟨B + 1 + 1, 10, none⟩ = some v := (cell_of_block ((Below.heap_alloc _ _ _ (by omega)).trans H6.out.1) rfl))
        | (refine step_append_lies _ (by rfl) _ _ 23 (by rfl) (B + 1 + 1 + 1) 50 i50 _ 3 32 Try.underlying23 HI.out.1 HI.out.2.1 HI.out.2.2.1 HI.out.2.2.2 rfl (by omega) v ps.length (cellsQ ps) (by rfl) ((ownsRow_stays HPO.out HC.out.2).alloc _) ⟨w6.heap.size, 0, none⟩ 1 1 (cellsQ [(⟨ya, yn, yc⟩, ⟨nm, t, cl⟩)]) (by rfl) (by rfl) (one_qn w6 ⟨ya, yn, yc⟩ ⟨nm, t, cl⟩) (cellsQ_one _) (by omega) (by simp only [maxLen]; omega) (by omega) (by simp; omega) (w6.heap.size + 1) (by simp) ?_; intro g cap w7 h5 h6 hat hlt7; have H5 := Lib.hid h5; have H56 := Lib.hid h6; have HAT := Lib.hid hat; have H7 := Lib.hid (H7A.out _ w7 (HC.out.2.alloc HC.out.2.size _) h6); have u10 : w7.cell? ⟨B + 1 + 1, 10, none⟩ = some v := (cell_of_block H7.out.1 rfl); have uz : w7.frozen? ⟨B + 1 + 1, 10, none⟩ = false := (frozen_of_block H7.out.1); have l7 : B + 1 + 1 + 1 ≤ w7.heap.size := H7.out.2.2.1; clear h5 h6 hat)
        | fail)
      all_goals
        have HV8 : Hid ((w7.setCell ⟨B + 1 + 1, 10, none⟩ (.slice (some ⟨g, 0, none⟩) (ps.length + 1) cap)).heap[B + 1 + 1]? = some (.cells #[.int .u16 (id : Int), .bool rs, .int .i64 op, .bool aa, .bool tc, .bool rd, .bool ra, .bool ad, .bool cd, .int .i64 rc, .slice (some ⟨g, 0, none⟩) (ps.length + 1) cap, .slice a2 n2 c2, .slice a3 n3 c3, .slice a4 n4 c4] 26)) := set10 H7.out.1 _
        have HB8 : Hid (Below (B + 1 + 1) W0 (w7.setCell ⟨B + 1 + 1, 10, none⟩ (.slice (some ⟨g, 0, none⟩) (ps.length + 1) cap))) := (HW.out.2.2.trans H7.out.2.2.2).setCell (p := ⟨B + 1 + 1, 10, none⟩) (Nat.le_refl (B + 1 + 1)) _
        have HO8 : Hid (OwQ (B + 1 + 1 + 1) (w7.setCell ⟨B + 1 + 1, 10, none⟩ (.slice (some ⟨g, 0, none⟩) (ps.length + 1) cap)) (.slice (some ⟨g, 0, none⟩) (ps.length + 1) cap) (qs.take (k + 1))) := by
          have hp := OwQ.push (v' := .slice (some ⟨g, 0, none⟩) (ps.length + 1) cap) HP.out.2 HPO.out hx0 (show QOwx wr.heap.size w6 ⟨ya, yn, yc⟩ ⟨nm, t, cl⟩ from HC.out.1) (new_below w6 _) HC.out.2 H5.out H56.out (by rcases HAT.out with h | h; exact .inl h.symm; exact .inr (by rw [h]; simp [Value.ownBlock]))
          rw [HP.out.1] at hp
          rw [show qs.take (k + 1) = _ from HTK.out]
          exact hp.keep (Nat.le_of_eq (by simp [World.setCell])) (fun j h1 _ => Below.heap_setCell w7 _ _ j (by simp; omega))
        generalize w7.setCell ⟨B + 1 + 1, 10, none⟩ (.slice (some ⟨g, 0, none⟩) (ps.length + 1) cap) = w8 at *
        go_wp2_with fail
        exact ⟨⟨k + 1, _, by omega, by go_num, HV8.out, HO8.out, HB8.out⟩, by simp [intOf]; omega⟩
    · obtain rfl : k = n1 := by omega
      have hTA : qs.take k = qs := List.take_of_length_le (by rw [HQ.out.2.1]; exact Nat.le_refl _)
      have HOQ : Hid (OwQ (B + 1 + 1 + 1) wr v qs) := by
        have := HW.out.2.1
        rw [hTA] at this
        exact this
      clear hTA
      obtain ⟨av, cv, rfl, _, _, _, _⟩ := HOQ.out.rd
      have HL0 : Hid (qs.length = k) := HQ.out.2.1
      have hx0 := HBW.out.2.2.1
      have KS : Hid (∀ W : World, W.heap[B]? = wr.heap[B]? → W.cell? ⟨B, 11, none⟩ = some (.slice a2 n2 c2) ∧ W.cell? ⟨B, 12, none⟩ = some (.slice a3 n3 c3) ∧ W.cell? ⟨B, 13, none⟩ = some (.slice a4 n4 c4)) := fun W h => by
        have m := h.trans HBW.out.1
        exact ⟨cell_of_block m rfl, cell_of_block m rfl, cell_of_block m rfl⟩
      have hwr : Hid (Below w.heap.size w wr) := by
        show Below w.heap.size w wr
        rw [HBB.out]; exact HBW.out.2.1
      have HE : Hid (∀ W, Below wr.heap.size wr W → W.heap[B]? = wr.heap[B]? ∧ W.heap[B + 1]? = some (.cells #[.int .u16 0, .bool false, .int .i64 0, .bool false, .bool false, .bool false, .bool false, .bool false, .bool false, .int .i64 0, .slice none 0 0, .slice none 0 0, .slice none 0 0, .slice none 0 0] 26) ∧ W.heap[B + 1 + 1]? = some (.cells #[.int .u16 (id : Int), .bool rs, .int .i64 op, .bool aa, .bool tc, .bool rd, .bool ra, .bool ad, .bool cd, .int .i64 rc, .slice av qs.length cv, .slice a2 n2 c2, .slice a3 n3 c3, .slice a4 n4 c4] 26) ∧ B + 1 + 1 + 1 ≤ W.heap.size) := fun W hb => ⟨hb.block _ (by omega), (hb.block _ (by omega)).trans HBW.out.2.2.2, (hb.block _ (by omega)).trans HW.out.1, by have := hb.size; omega⟩
      go_wp2_with fail
      go_region_held3 (fun W => W.cell? ⟨B, 11, none⟩ = some (.slice a2 n2 c2) ∧ W.cell? ⟨B, 12, none⟩ = some (.slice a3 n3 c3) ∧ W.cell? ⟨B, 13, none⟩ = some (.slice a4 n4 c4)) (first | exact KS.out _ (by rw [Below.heap_setCell _ _ _ _ (by show ¬ B = B + 1 + 1; omega), Below.heap_setCell _ _ _ _ (by show ¬ B = B + 1 + 1; omega), Below.heap_setCell _ _ _ _ (by show ¬ B = B + 1 + 1; omega)]; exact E7.out) | exact KS.out _ (by rw [Below.heap_setCell _ _ _ _ (by show ¬ B = B + 1 + 1; omega), Below.heap_setCell _ _ _ _ (by show ¬ B = B + 1 + 1; omega)]; exact E7.out) | exact KS.out _ (by rw [Below.heap_setCell _ _ _ _ (by show ¬ B = B + 1 + 1; omega)]; exact E7.out) | exact KS.out _ E7.out | exact KS.out _ E6.out | exact KS.out _ E5.out | exact KS.out wr.drew rfl | exact KS.out wr rfl) (first
        | (go_at_call 23; refine (K4.out _ (hwr.out.trans (B6.out.mono hwr.out.size))).mono ?_; rintro e w7 ⟨v4, rfl, H4⟩; obtain ⟨av4, cv4, rfl, _, _, _, _⟩ := H4.out.1.rd; have B7 : Hid (Below wr.heap.size wr w7) := (B6.out.trans (H4.out.2.mono B6.out.size)); have E7 : Hid (w7.heap[B]? = wr.heap[B]?) := (HE.out w7 B7.out).1; obtain ⟨_, z1, z2, z3⟩ := HE.out w7 B7.out; have Z2 := Lib.hid z2; have g11 : w7.cell? ⟨B + 1 + 1, 11, none⟩ = some (.slice a2 n2 c2) := (cell_of_block z2 rfl); have g12 : w7.cell? ⟨B + 1 + 1, 12, none⟩ = some (.slice a3 n3 c3) := (cell_of_block z2 rfl); have g13 : w7.cell? ⟨B + 1 + 1, 13, none⟩ = some (.slice a4 n4 c4) := (cell_of_block z2 rfl); have f11 : w7.frozen? ⟨B + 1 + 1, 11, none⟩ = false := (frozen_of_block z2); have f12 : w7.frozen? ⟨B + 1 + 1, 12, none⟩ = false := (frozen_of_block z2); have f13 : w7.frozen? ⟨B + 1 + 1, 13, none⟩ = false := (frozen_of_block z2); have Z1 := Lib.hid z1; have hz3 : B + 1 + 1 < w7.heap.size := (by omega); clear z1 z2)
        | (go_at_call 23; refine (K3.out _ (hwr.out.trans (B5.out.mono hwr.out.size))).mono ?_; rintro e w6 ⟨v3, rfl, H3⟩; obtain ⟨av3, cv3, rfl, _, _, _, _⟩ := H3.out.1.rd; have B6 : Hid (Below wr.heap.size wr w6) := (B5.out.trans (H3.out.2.mono B5.out.size)); have E6 : Hid (w6.heap[B]? = wr.heap[B]?) := (HE.out w6 B6.out).1)
        | (go_at_call 23; refine (K2.out _ hwr.out.drew).mono ?_; rintro e w5 ⟨v2, rfl, H2⟩; obtain ⟨av2, cv2, rfl, _, _, _, _⟩ := H2.out.1.rd; have B5 : Hid (Below wr.heap.size wr w5) := ((Below.refl wr.heap.size wr).drew.trans H2.out.2); have E5 : Hid (w5.heap[B]? = wr.heap[B]?) := (HE.out w5 B5.out).1)
        | fail)
      have HG8 : Hid ((((w7.setCell ⟨B + 1 + 1, 11, none⟩ (.slice av2 r2.length cv2)).setCell ⟨B + 1 + 1, 12, none⟩ (.slice av3 r3.length cv3)).setCell ⟨B + 1 + 1, 13, none⟩ (.slice av4 r4.length cv4)).heap[B + 1 + 1]? = some (.cells #[.int .u16 (id : Int), .bool rs, .int .i64 op, .bool aa, .bool tc, .bool rd, .bool ra, .bool ad, .bool cd, .int .i64 rc, .slice av qs.length cv, .slice av2 r2.length cv2, .slice av3 r3.length cv3, .slice av4 r4.length cv4] 26)) := set3x Z2.out _ _ _
      have HO8 : Hid (∀ j, j ≠ B + 1 + 1 → (((w7.setCell ⟨B + 1 + 1, 11, none⟩ (.slice av2 r2.length cv2)).setCell ⟨B + 1 + 1, 12, none⟩ (.slice av3 r3.length cv3)).setCell ⟨B + 1 + 1, 13, none⟩ (.slice av4 r4.length cv4)).heap[j]? = w7.heap[j]?) := fun j hj => set3x_other w7 (B + 1 + 1) _ _ _ j hj
      have HB8 : Hid (Below (B + 1 + 1) w7 (((w7.setCell ⟨B + 1 + 1, 11, none⟩ (.slice av2 r2.length cv2)).setCell ⟨B + 1 + 1, 12, none⟩ (.slice av3 r3.length cv3)).setCell ⟨B + 1 + 1, 13, none⟩ (.slice av4 r4.length cv4))) := set3x_below w7 (B + 1 + 1) _ _ _
      generalize (((w7.setCell ⟨B + 1 + 1, 11, none⟩ (.slice av2 r2.length cv2)).setCell ⟨B + 1 + 1, 12, none⟩ (.slice av3 r3.length cv3)).setCell ⟨B + 1 + 1, 13, none⟩ (.slice av4 r4.length cv4)) = w8 at *
      clear g11 g12 g13 f11 f12 f13
      have HR8 : Hid (w8.heap[B + 1]? = some (.cells #[.int .u16 0, .bool false, .int .i64 0, .bool false, .bool false, .bool false, .bool false, .bool false, .bool false, .int .i64 0, .slice none 0 0, .slice none 0 0, .slice none 0 0, .slice none 0 0] 26)) := (HO8.out (B + 1) (by omega)).trans Z1.out
      have g0 : w8.cell? ⟨B + 1 + 1, 0, none⟩ = some (.int .u16 (id : Int)) := cell_of_block HG8.out rfl
      have g1 : w8.cell? ⟨B + 1 + 1, 1, none⟩ = some (.bool rs) := cell_of_block HG8.out rfl
      have g2 : w8.cell? ⟨B + 1 + 1, 2, none⟩ = some (.int .i64 op) := cell_of_block HG8.out rfl
      have g3 : w8.cell? ⟨B + 1 + 1, 3, none⟩ = some (.bool aa) := cell_of_block HG8.out rfl
      have g4 : w8.cell? ⟨B + 1 + 1, 4, none⟩ = some (.bool tc) := cell_of_block HG8.out rfl
      have g5 : w8.cell? ⟨B + 1 + 1, 5, none⟩ = some (.bool rd) := cell_of_block HG8.out rfl
      have g6 : w8.cell? ⟨B + 1 + 1, 6, none⟩ = some (.bool ra) := cell_of_block HG8.out rfl
      have g7 : w8.cell? ⟨B + 1 + 1, 7, none⟩ = some (.bool ad) := cell_of_block HG8.out rfl
      have g8 : w8.cell? ⟨B + 1 + 1, 8, none⟩ = some (.bool cd) := cell_of_block HG8.out rfl
      have g9 : w8.cell? ⟨B + 1 + 1, 9, none⟩ = some (.int .i64 rc) := cell_of_block HG8.out rfl
      have g10 : w8.cell? ⟨B + 1 + 1, 10, none⟩ = some (.slice av qs.length cv) := cell_of_block HG8.out rfl
      have g11 : w8.cell? ⟨B + 1 + 1, 11, none⟩ = some (.slice av2 r2.length cv2) := cell_of_block HG8.out rfl
      have g12 : w8.cell? ⟨B + 1 + 1, 12, none⟩ = some (.slice av3 r3.length cv3) := cell_of_block HG8.out rfl
      have g13 : w8.cell? ⟨B + 1 + 1, 13, none⟩ = some (.slice av4 r4.length cv4) := cell_of_block HG8.out rfl
      have k0 : w8.cell? ⟨B + 1, 0, none⟩ = some (.int .u16 0) := cell_of_block HR8.out rfl
      have k1 : w8.cell? ⟨B + 1, 1, none⟩ = some (.bool false) := cell_of_block HR8.out rfl
      have k2 : w8.cell? ⟨B + 1, 2, none⟩ = some (.int .i64 0) := cell_of_block HR8.out rfl
      have k3 : w8.cell? ⟨B + 1, 3, none⟩ = some (.bool false) := cell_of_block HR8.out rfl
      have k4 : w8.cell? ⟨B + 1, 4, none⟩ = some (.bool false) := cell_of_block HR8.out rfl
      have k5 : w8.cell? ⟨B + 1, 5, none⟩ = some (.bool false) := cell_of_block HR8.out rfl
      have k6 : w8.cell? ⟨B + 1, 6, none⟩ = some (.bool false) := cell_of_block HR8.out rfl
      have k7 : w8.cell? ⟨B + 1, 7, none⟩ = some (.bool false) := cell_of_block HR8.out rfl
      have k8 : w8.cell? ⟨B + 1, 8, none⟩ = some (.bool false) := cell_of_block HR8.out rfl
      have k9 : w8.cell? ⟨B + 1, 9, none⟩ = some (.int .i64 0) := cell_of_block HR8.out rfl
      have k10 : w8.cell? ⟨B + 1, 10, none⟩ = some (.slice none 0 0) := cell_of_block HR8.out rfl
      have k11 : w8.cell? ⟨B + 1, 11, none⟩ = some (.slice none 0 0) := cell_of_block HR8.out rfl
      have k12 : w8.cell? ⟨B + 1, 12, none⟩ = some (.slice none 0 0) := cell_of_block HR8.out rfl
      have k13 : w8.cell? ⟨B + 1, 13, none⟩ = some (.slice none 0 0) := cell_of_block HR8.out rfl
      have f0 : w8.frozen? ⟨B + 1, 0, none⟩ = false := frozen_of_block HR8.out
      have f1 : w8.frozen? ⟨B + 1, 1, none⟩ = false := frozen_of_block HR8.out
      have f2 : w8.frozen? ⟨B + 1, 2, none⟩ = false := frozen_of_block HR8.out
      have f3 : w8.frozen? ⟨B + 1, 3, none⟩ = false := frozen_of_block HR8.out
      have f4 : w8.frozen? ⟨B + 1, 4, none⟩ = false := frozen_of_block HR8.out
      have f5 : w8.frozen? ⟨B + 1, 5, none⟩ = false := frozen_of_block HR8.out
      have f6 : w8.frozen? ⟨B + 1, 6, none⟩ = false := frozen_of_block HR8.out
      have f7 : w8.frozen? ⟨B + 1, 7, none⟩ = false := frozen_of_block HR8.out
      have f8 : w8.frozen? ⟨B + 1, 8, none⟩ = false := frozen_of_block HR8.out
      have f9 : w8.frozen? ⟨B + 1, 9, none⟩ = false := frozen_of_block HR8.out
      have f10 : w8.frozen? ⟨B + 1, 10, none⟩ = false := frozen_of_block HR8.out
      have f11 : w8.frozen? ⟨B + 1, 11, none⟩ = false := frozen_of_block HR8.out
      have f12 : w8.frozen? ⟨B + 1, 12, none⟩ = false := frozen_of_block HR8.out
      have f13 : w8.frozen? ⟨B + 1, 13, none⟩ = false := frozen_of_block HR8.out
      have lG8 := block_lt HG8.out
      have lR8 := block_lt HR8.out
      clear KS HE
      go_wp2_with fail
      have HG9 : Hid (((((((((((((((w8.setCell ⟨B + 1, 0, none⟩ (.int .u16 (id : Int))).setCell ⟨B + 1, 1, none⟩ (.bool rs)).setCell ⟨B + 1, 2, none⟩ (.int .i64 op)).setCell ⟨B + 1, 3, none⟩ (.bool aa)).setCell ⟨B + 1, 4, none⟩ (.bool tc)).setCell ⟨B + 1, 5, none⟩ (.bool rd)).setCell ⟨B + 1, 6, none⟩ (.bool ra)).setCell ⟨B + 1, 7, none⟩ (.bool ad)).setCell ⟨B + 1, 8, none⟩ (.bool cd)).setCell ⟨B + 1, 9, none⟩ (.int .i64 rc)).setCell ⟨B + 1, 10, none⟩ (.slice av qs.length cv)).setCell ⟨B + 1, 11, none⟩ (.slice av2 r2.length cv2)).setCell ⟨B + 1, 12, none⟩ (.slice av3 r3.length cv3)).setCell ⟨B + 1, 13, none⟩ (.slice av4 r4.length cv4)).heap[B + 1]? = some (.cells #[.int .u16 (id : Int), .bool rs, .int .i64 op, .bool aa, .bool tc, .bool rd, .bool ra, .bool ad, .bool cd, .int .i64 rc, .slice av qs.length cv, .slice av2 r2.length cv2, .slice av3 r3.length cv3, .slice av4 r4.length cv4] 26)) := put14 HR8.out _ _ _ _ _ _ _ _ _ _ _ _ _ _
      have HO9 : Hid (∀ j, j ≠ B + 1 → ((((((((((((((w8.setCell ⟨B + 1, 0, none⟩ (.int .u16 (id : Int))).setCell ⟨B + 1, 1, none⟩ (.bool rs)).setCell ⟨B + 1, 2, none⟩ (.int .i64 op)).setCell ⟨B + 1, 3, none⟩ (.bool aa)).setCell ⟨B + 1, 4, none⟩ (.bool tc)).setCell ⟨B + 1, 5, none⟩ (.bool rd)).setCell ⟨B + 1, 6, none⟩ (.bool ra)).setCell ⟨B + 1, 7, none⟩ (.bool ad)).setCell ⟨B + 1, 8, none⟩ (.bool cd)).setCell ⟨B + 1, 9, none⟩ (.int .i64 rc)).setCell ⟨B + 1, 10, none⟩ (.slice av qs.length cv)).setCell ⟨B + 1, 11, none⟩ (.slice av2 r2.length cv2)).setCell ⟨B + 1, 12, none⟩ (.slice av3 r3.length cv3)).setCell ⟨B + 1, 13, none⟩ (.slice av4 r4.length cv4)).heap[j]? = w8.heap[j]?) := fun j hj => put14_other w8 (B + 1) _ _ _ _ _ _ _ _ _ _ _ _ _ _ j hj
      have HB9 : Hid (Below (B + 1) w8 ((((((((((((((w8.setCell ⟨B + 1, 0, none⟩ (.int .u16 (id : Int))).setCell ⟨B + 1, 1, none⟩ (.bool rs)).setCell ⟨B + 1, 2, none⟩ (.int .i64 op)).setCell ⟨B + 1, 3, none⟩ (.bool aa)).setCell ⟨B + 1, 4, none⟩ (.bool tc)).setCell ⟨B + 1, 5, none⟩ (.bool rd)).setCell ⟨B + 1, 6, none⟩ (.bool ra)).setCell ⟨B + 1, 7, none⟩ (.bool ad)).setCell ⟨B + 1, 8, none⟩ (.bool cd)).setCell ⟨B + 1, 9, none⟩ (.int .i64 rc)).setCell ⟨B + 1, 10, none⟩ (.slice av qs.length cv)).setCell ⟨B + 1, 11, none⟩ (.slice av2 r2.length cv2)).setCell ⟨B + 1, 12, none⟩ (.slice av3 r3.length cv3)).setCell ⟨B + 1, 13, none⟩ (.slice av4 r4.length cv4))) := put14_below w8 (B + 1) _ _ _ _ _ _ _ _ _ _ _ _ _ _
      generalize ((((((((((((((w8.setCell ⟨B + 1, 0, none⟩ (.int .u16 (id : Int))).setCell ⟨B + 1, 1, none⟩ (.bool rs)).setCell ⟨B + 1, 2, none⟩ (.int .i64 op)).setCell ⟨B + 1, 3, none⟩ (.bool aa)).setCell ⟨B + 1, 4, none⟩ (.bool tc)).setCell ⟨B + 1, 5, none⟩ (.bool rd)).setCell ⟨B + 1, 6, none⟩ (.bool ra)).setCell ⟨B + 1, 7, none⟩ (.bool ad)).setCell ⟨B + 1, 8, none⟩ (.bool cd)).setCell ⟨B + 1, 9, none⟩ (.int .i64 rc)).setCell ⟨B + 1, 10, none⟩ (.slice av qs.length cv)).setCell ⟨B + 1, 11, none⟩ (.slice av2 r2.length cv2)).setCell ⟨B + 1, 12, none⟩ (.slice av3 r3.length cv3)).setCell ⟨B + 1, 13, none⟩ (.slice av4 r4.length cv4)) = w9 at *
      clear g0 k0 f0 g1 k1 f1 g2 k2 f2 g3 k3 f3 g4 k4 f4 g5 k5 f5 g6 k6 f6 g7 k7 f7 g8 k8 f8 g9 k9 f9 g10 k10 f10 g11 k11 f11 g12 k12 f12 g13 k13 f13
      have y0 : w9.cell? ⟨B + 1, 0, none⟩ = some (.int .u16 (id : Int)) := cell_of_block HG9.out rfl
      have y1 : w9.cell? ⟨B + 1, 1, none⟩ = some (.bool rs) := cell_of_block HG9.out rfl
      have y2 : w9.cell? ⟨B + 1, 2, none⟩ = some (.int .i64 op) := cell_of_block HG9.out rfl
      have y3 : w9.cell? ⟨B + 1, 3, none⟩ = some (.bool aa) := cell_of_block HG9.out rfl
      have y4 : w9.cell? ⟨B + 1, 4, none⟩ = some (.bool tc) := cell_of_block HG9.out rfl
      have y5 : w9.cell? ⟨B + 1, 5, none⟩ = some (.bool rd) := cell_of_block HG9.out rfl
      have y6 : w9.cell? ⟨B + 1, 6, none⟩ = some (.bool ra) := cell_of_block HG9.out rfl
      have y7 : w9.cell? ⟨B + 1, 7, none⟩ = some (.bool ad) := cell_of_block HG9.out rfl
      have y8 : w9.cell? ⟨B + 1, 8, none⟩ = some (.bool cd) := cell_of_block HG9.out rfl
      have y9 : w9.cell? ⟨B + 1, 9, none⟩ = some (.int .i64 rc) := cell_of_block HG9.out rfl
      have y10 : w9.cell? ⟨B + 1, 10, none⟩ = some (.slice av qs.length cv) := cell_of_block HG9.out rfl
      have y11 : w9.cell? ⟨B + 1, 11, none⟩ = some (.slice av2 r2.length cv2) := cell_of_block HG9.out rfl
      have y12 : w9.cell? ⟨B + 1, 12, none⟩ = some (.slice av3 r3.length cv3) := cell_of_block HG9.out rfl
      have y13 : w9.cell? ⟨B + 1, 13, none⟩ = some (.slice av4 r4.length cv4) := cell_of_block HG9.out rfl
      have lR9 := block_lt HG9.out
      have s8 := HB8.out.size
      have s9 := HB9.out.size
      have HK : Hid (∀ j, B + 1 + 1 + 1 ≤ j → j < w7.heap.size → w9.heap[j]? = w7.heap[j]?) := fun j h1 h2 => (HO9.out j (by omega)).trans (HO8.out j (by omega))
      have b57 : Below w5.heap.size w5 w7 := H3.out.2.trans (H4.out.2.mono H3.out.2.size)
      have b67 : Below w6.heap.size w6 w7 := H4.out.2
      have s5 := B5.out.size
      have s6 := B6.out.size
      have o2 : OwR wr.heap.size w5 (.slice av2 r2.length cv2) r2 := H2.out.1
      have o3 : OwR w5.heap.size w6 (.slice av3 r3.length cv3) r3 := H3.out.1
      have o4 : OwR w6.heap.size w7 (.slice av4 r4.length cv4) r4 := H4.out.1
      refine bodyPost_ret (v := .agg #[.int .u16 (id : Int), .bool rs, .int .i64 op, .bool aa, .bool tc, .bool rd, .bool ra, .bool ad, .bool cd, .int .i64 rc, .slice av qs.length cv, .slice av2 r2.length cv2, .slice av3 r3.length cv3, .slice av4 r4.length cv4]) ?_ rfl ⟨_, _, _, _, rfl, ?_⟩
      · simp [results, Try.results9, go_sem, y0, y1, y2, y3, y4, y5, y6, y7, y8, y9, y10, y11, y12, y13]
      · rw [HBB.out]
        refine ⟨?_, ?_, ?_, ?_, ?_⟩
        · exact ((HOQ.out.stays B7.out).keep (by omega) HK.out).mono (by omega)
        · exact (((o2.stays b57).mono (by omega : B + 1 + 1 + 1 ≤ wr.heap.size)).keep (by omega) HK.out).mono (by omega)
        · exact (((o3.stays b67).mono (by omega : B + 1 + 1 + 1 ≤ w5.heap.size)).keep (by omega) HK.out).mono (by omega)
        · exact ((o4.mono (by omega : B + 1 + 1 + 1 ≤ w6.heap.size)).keep (by omega) HK.out).mono (by omega)
        · exact ((HBW.out.2.1.trans (B7.out.mono (by omega))).trans (HB8.out.mono (by omega))).trans (HB9.out.mono (by omega))
end Go.Proofs.Ytmlccnpondemiaa
namespace Go.Proofs.Ytmlccnpondemiaa
open Go.ChangeShapes Go.WideShapes Go.ChangeAt Go.RowKit
set_option linter.unusedVariables false
set_option linter.unusedSimpArgs false
def LgP (w : World) (n1 n2 n3 n4 : Nat) (qs : List Qn) (e : Ending) (w' : World) : Prop :=
  (e = .returned (.bool true) ∨ (e = .returned (.bool false) ∧ n1 ≤ 20 ∧ wrap64 (wrap64 ((n2 : Int) + (n3 : Int)) + (n4 : Int)) ≤ 9 ∧ ∀ q ∈ qs, q.nm.length ≤ 130)) ∧ Below w.heap.size w w'
set_option maxHeartbeats 4000000 in
theorem large8 (id : Int) (rs : Bool) (op : Int) (aa tc rd ra ad cd : Bool) (rc : Int) (s1 : Sl) (a2 a3 a4 : Option Addr) (n2 n3 n4 k2 k3 k4 : Nat) (qs : List Qn) (w : World) (h1 : QsRd w s1 qs) :
    Calls Try.prog 8 #[.agg #[.int .u16 id, .bool rs, .int .i64 op, .bool aa, .bool tc, .bool rd, .bool ra, .bool ad, .bool cd, .int .i64 rc, .slice s1.a s1.n s1.c, .slice a2 n2 k2, .slice a3 n3 k3, .slice a4 n4 k4]] w fun e w' => LgP w s1.n n2 n3 n4 qs e w' := by
  obtain ⟨a1, n1, k1⟩ := s1
  have HQ : Hid (QsRd w ⟨a1, n1, k1⟩ qs) := h1
  have HLn : Hid (qs.length = n1) := h1.len
  clear h1
  show Calls Try.prog 8 _ w fun e w' => LgP w n1 n2 n3 n4 qs e w'
  by_cases hn : n1 ≤ 20
  · have hn' : (n1 : Int) ≤ 20 := by omega
    by_cases hs : wrap64 (wrap64 ((n2 : Int) + (n3 : Int)) + (n4 : Int)) ≤ 9
    · have HNN : Hid (wrap64 (wrap64 ((n2 : Int) + (n3 : Int)) + (n4 : Int)) ≤ 9) := hs
      go_enter Try.func8, Try.ntmps8
      go_wp2_with fail
      obtain ⟨W0, hW0⟩ : ∃ W0, W0 = w.alloc (.cells #[.int .u16 id, .bool rs, .int .i64 op, .bool aa, .bool tc, .bool rd, .bool ra, .bool ad, .bool cd, .int .i64 rc, .slice a1 n1 k1, .slice a2 n2 k2, .slice a3 n3 k3, .slice a4 n4 k4] 26) := ⟨_, rfl⟩
      rw [← hW0]
      have HB0 : Hid (W0.heap[w.heap.size]? = some (.cells #[.int .u16 id, .bool rs, .int .i64 op, .bool aa, .bool tc, .bool rd, .bool ra, .bool ad, .bool cd, .int .i64 rc, .slice a1 n1 k1, .slice a2 n2 k2, .slice a3 n3 k3, .slice a4 n4 k4] 26) ∧ Below w.heap.size w W0) := by rw [hW0]; exact ⟨alloc_at _ _, (Below.refl _ _).alloc (Nat.le_refl _) _⟩
      have q0 : W0.cell? ⟨w.heap.size, 10, none⟩ = some (.slice a1 n1 k1) := cell_of_block HB0.out.1 rfl
      have q1 := block_lt HB0.out.1
      clear hW0
      go_loopw [3] (fun y wr => ∃ k : Nat, k ≤ n1 ∧ y = .int .i64 (k : Int) ∧ wr = W0 ∧ Hid (∀ j (h : j < qs.length), j < k → (qs[j]).nm.length ≤ 130)) (fun y _ => n1 - (intOf y).toNat)
      case atStart => exact ⟨0, by omega, rfl, rfl, fun j _ h => absurd h (by omega)⟩
      case round =>
        obtain ⟨k, hk, rfl, rfl, HK⟩ := hrel
        by_cases hlt : k < n1
        · have hlt' : (k : Int) < (n1 : Int) := by omega
          have hkq : k < qs.length := by rw [HLn.out]; exact hlt
          obtain ⟨b, o, e1, q2, x, r1, _, _, ok⟩ := (HQ.out.below HB0.out.2).at k hkq
          simp only at e1
          subst e1
          obtain ⟨⟨a, n, c⟩, t, l⟩ := x
          simp only at r1
          have HX : Hid ((qs[k]).nm.length = n) := ok.rd.len
          clear ok
          by_cases h130 : n ≤ 130
          · have h130' : ¬ (130 : Int) < (n : Int) := by omega
            go_wp2
            refine ⟨⟨k + 1, by omega, by go_num, trivial, ?_⟩, by simp [intOf]; omega⟩
            intro j h hj
            rcases Nat.lt_or_ge j k with h' | h'
            · exact HK.out j h h'
            · obtain rfl : j = k := by omega
              rw [HX.out]; exact h130
          · have h130' : (130 : Int) < (n : Int) := by omega
            go_wp2
            go_ret
            exact ⟨.inl rfl, HB0.out.2⟩
        · obtain rfl : k = n1 := by omega
          go_wp2
          go_ret
          refine ⟨.inr ⟨rfl, hn, HNN.out, ?_⟩, HB0.out.2⟩
          intro q hq
          obtain ⟨j, hj, rfl⟩ := List.getElem_of_mem hq
          exact HK.out j hj (by rw [HLn.out] at hj; exact hj)
    · have hs' : (9 : Int) < wrap64 (wrap64 ((n2 : Int) + (n3 : Int)) + (n4 : Int)) := by omega
      go_enter Try.func8, Try.ntmps8
      go_wp2
      go_ret
      exact ⟨.inl rfl, (Below.refl _ _).alloc (Nat.le_refl _) _⟩
  · have hn' : (20 : Int) < (n1 : Int) := by omega
    go_enter Try.func8, Try.ntmps8
    go_wp2
    go_ret
    exact ⟨.inl rfl, (Below.refl _ _).alloc (Nat.le_refl _) _⟩
end Go.Proofs.Ytmlccnpondemiaa
namespace Go.Proofs.Ytmlccnpondemiaa
open Go.ChangeShapes Go.WideShapes Go.ChangeAt Go.RowKit Go.Maps
set_option linter.unusedVariables false
set_option linter.unusedSimpArgs false
set_option maxRecDepth 100000
/-- The lists of a message that can be read. -/
structure MF (W : World) (s1 s2 s3 s4 : Sl) (qs : List Qn) (r2 r3 r4 : List Rec) : Prop where
  q : QsRd W s1 qs
  a2 : RdR W s2.a r2
  l2 : r2.length = s2.n
  a3 : RdR W s3.a r3
  l3 : r3.length = s3.n
  a4 : RdR W s4.a r4
  l4 : r4.length = s4.n
theorem MF.below {W W' : World} {s1 s2 s3 s4 : Sl} {qs : List Qn} {r2 r3 r4 : List Rec} (h : MF W s1 s2 s3 s4 qs r2 r3 r4) (hb : Below W.heap.size W W') : MF W' s1 s2 s3 s4 qs r2 r3 r4 := ⟨h.q.below hb, h.a2.below hb, h.l2, h.a3.below hb, h.l3, h.a4.below hb, h.l4⟩
/-- A copy, whose blocks are those from lo up to hi. -/
def Cpy (lo hi : Nat) (W : World) (s1 s2 s3 s4 : Sl) (qs : List Qn) (r2 r3 r4 : List Rec) : Prop :=
  hi ≤ W.heap.size ∧ ∀ W' : World, hi ≤ W'.heap.size → (∀ j, lo ≤ j → j < hi → W'.heap[j]? = W.heap[j]?) → MF W' s1 s2 s3 s4 qs r2 r3 r4
theorem Cpy.go {lo hi : Nat} {W W' : World} {s1 s2 s3 s4 : Sl} {qs : List Qn} {r2 r3 r4 : List Rec} (h : Cpy lo hi W s1 s2 s3 s4 qs r2 r3 r4) (hs : hi ≤ W'.heap.size) (hb : ∀ j, lo ≤ j → j < hi → W'.heap[j]? = W.heap[j]?) : Cpy lo hi W' s1 s2 s3 s4 qs r2 r3 r4 :=
  ⟨hs, fun W2 h1 h2 => h.2 W2 h1 (fun j a b => (h2 j a b).trans (hb j a b))⟩
theorem Cpy.mf {lo hi : Nat} {W : World} {s1 s2 s3 s4 : Sl} {qs : List Qn} {r2 r3 r4 : List Rec} (h : Cpy lo hi W s1 s2 s3 s4 qs r2 r3 r4) : MF W s1 s2 s3 s4 qs r2 r3 r4 := h.2 W h.1 (fun _ _ _ => rfl)
theorem cpy_of {B : Nat} {w : World} {v1 v2 v3 v4 : Value} {qs : List Qn} {r2 r3 r4 : List Rec} (h1 : OwQ B w v1 qs) (h2 : OwR B w v2 r2) (h3 : OwR B w v3 r3) (h4 : OwR B w v4 r4) (hq : ∀ q ∈ qs, q.ty < 65536 ∧ q.cl < 65536) :
    ∃ s1 s2 s3 s4 : Sl, v1 = .slice s1.a s1.n s1.c ∧ v2 = .slice s2.a s2.n s2.c ∧ v3 = .slice s3.a s3.n s3.c ∧ v4 = .slice s4.a s4.n s4.c ∧ Cpy B w.heap.size w s1 s2 s3 s4 qs r2 r3 r4 := by
  obtain ⟨a1, c1, e1, _⟩ := h1.qs hq
  obtain ⟨a2, c2, e2, _⟩ := h2.rd
  obtain ⟨a3, c3, e3, _⟩ := h3.rd
  obtain ⟨a4, c4, e4, _⟩ := h4.rd
  refine ⟨⟨a1, qs.length, c1⟩, ⟨a2, r2.length, c2⟩, ⟨a3, r3.length, c3⟩, ⟨a4, r4.length, c4⟩, e1, e2, e3, e4, Nat.le_refl _, fun W' hs hb => ?_⟩
  obtain ⟨a1', c1', e1', g1⟩ := (h1.keep hs hb).qs hq
  obtain ⟨a2', c2', e2', g2, _⟩ := (h2.keep hs hb).rd
  obtain ⟨a3', c3', e3', g3, _⟩ := (h3.keep hs hb).rd
  obtain ⟨a4', c4', e4', g4, _⟩ := (h4.keep hs hb).rd
  rw [e1] at e1'
  rw [e2] at e2'
  rw [e3] at e3'
  rw [e4] at e4'
  cases e1'
  cases e2'
  cases e3'
  cases e4'
  exact ⟨g1, g2, rfl, g3, rfl, g4, rfl⟩
end Go.Proofs.Ytmlccnpondemiaa
