/- Entries that came in. -/
import Derived.Test.YtgdkeafjglcgaaaDoorRows
import Derived.Test.YtgdkeafjglcgaaaDoorTa
import Derived.OpenShut
namespace Go.Proofs.YtgdkeafjglcgaaaDoor
open Go.ChangeShapes Go.WideShapes Go.ChangeAt Go.RowKit
set_option linter.unusedVariables false
set_option linter.unusedSimpArgs false
set_option maxRecDepth 100000
variable {H : Type} {enc : TypeId × Value → H} {W : World}
theorem bulk_pos (d : DataW H) : 1 ≤ Rows.uptoBulk d := by
  cases d with
  | lit l => cases l <;> simp [Rows.uptoBulk]
  | _ => simp [Rows.uptoBulk]
theorem bulk_len : ∀ l : List (DataW H), l.length ≤ Rows.uptoBulkAll l
  | [] => by simp [Rows.uptoBulkAll]
  | d :: l => by
    have h1 := bulk_len l
    have h2 := bulk_pos d
    simp only [Rows.uptoBulkAll, List.length_cons]
    omega
theorem bulk_mem {d : DataW H} : ∀ {l : List (DataW H)}, d ∈ l → Rows.uptoBulk d ≤ Rows.uptoBulkAll l
  | [], h => by cases h
  | e :: l, h => by
    simp only [Rows.uptoBulkAll]
    rcases List.mem_cons.1 h with rfl | h
    · omega
    · have := bulk_mem h; omega
theorem list_ex {α : Type} (P : Nat → α → Prop) : ∀ n, (∀ i, i < n → ∃ x, P i x) → ∃ l : List α, l.length = n ∧ ∀ i (h : i < l.length), P i l[i]
  | 0, _ => ⟨[], rfl, fun i h => by simp at h⟩
  | n + 1, h => by
    obtain ⟨l, h1, h2⟩ := list_ex P n (fun i hi => h i (by omega))
    obtain ⟨x, hx⟩ := h n (by omega)
    refine ⟨l ++ [x], by simp [h1], fun i hi => ?_⟩
    by_cases e : i < l.length
    · rw [List.getElem_append_left e]; exact h2 i e
    · have : i = l.length := by simp at hi; omega
      subst this
      simp only [List.getElem_concat_length]
      rw [h1]; exact hx
theorem fld {t : TypeId} {fs : Array Field} {fuel : Nat} {cs : List Value} {x : DataW H × List MemPlace} (ht : Tryd.prog.underlying t = some (.struct fs)) (h : DataW.trod enc Tryd.prog W 0 (fun _ => true) true fuel t cs = some x) (i : Nat) (f : Field) (hf : fs[i]? = some f) (k : Nat) (hk : Tryd.prog.cellsOf f.type = k) :
    ∃ n y, DataW.trod enc Tryd.prog W 0 (fun _ => true) true n f.type ((cs.drop f.offset).take k) = some y ∧ Rows.uptoBulk y.1 ≤ Rows.uptoBulk x.1 := by
  obtain ⟨xs, n, _, hx, _, hlen, hall⟩ := DataW.trod_struct ht h
  have := hall i f hf
  rw [hk] at this
  have hi : i < fs.size := (Array.getElem?_eq_some_iff.1 hf).1
  refine ⟨n, _, this.trans (List.getElem?_eq_getElem (by rw [hlen]; exact hi)), ?_⟩
  have hm : (xs[i]'(by rw [hlen]; exact hi)).1 ∈ xs.map (·.1) := List.mem_map.2 ⟨_, List.getElem_mem _, rfl⟩
  have := bulk_mem hm
  rw [hx]
  simp only [Rows.uptoBulk]
  omega
theorem open_term {fuel : Nat} {v0 v1 : Value} {x : DataW H × List MemPlace} (h : DataW.trod enc Tryd.prog W 0 (fun _ => true) true fuel 44 [v0, v1] = some x) : ∃ t : Wd, v0 = .string t.1 ∧ v1 = .bool t.2 ∧ t.1.size ≤ Rows.uptoBulk x.1 := by
  obtain ⟨_, y0, t0, b0⟩ := fld Tryd.underlying44 h 0 _ rfl 1 (by kernel_rfl)
  obtain ⟨_, y1, t1, b1⟩ := fld Tryd.underlying44 h 1 _ rfl 1 (by kernel_rfl)
  replace t0 : DataW.trod enc Tryd.prog W 0 (fun _ => true) true _ 9 [v0] = some _ := t0
  replace t1 : DataW.trod enc Tryd.prog W 0 (fun _ => true) true _ 4 [v1] = some _ := t1
  obtain ⟨s, e0, hy0, _⟩ := DataW.trod_string Tryd.underlying9 t0
  obtain ⟨b, e1, _⟩ := DataW.trod_bool Tryd.underlying4 t1
  simp only [List.cons.injEq, and_true] at e0 e1
  refine ⟨(s, b), e0, e1, ?_⟩
  rw [hy0] at b0
  simp only [Rows.uptoBulk] at b0
  have : s.data.toList.length = s.size := by simp
  simp only
  omega
theorem cells44 : Tryd.prog.cellsOf 44 = 2 := by kernel_rfl
theorem cells34 : Tryd.prog.cellsOf 34 = 3 := by kernel_rfl
theorem open_terms {a : Option Addr} {len cap fuel : Nat} {x : DataW H × List MemPlace} (hf : DataW.trod enc Tryd.prog W 0 (fun _ => true) true fuel 32 [Value.slice a len cap] = some x) : ∃ ws : List Wd, WRd W ⟨a, len, cap⟩ ws ∧ len ≤ Rows.uptoBulk x.1 ∧ ∀ v ∈ ws, v.1.size ≤ Rows.uptoBulk x.1 := by
  rcases DataW.trod_slice Tryd.underlying32 hf with ⟨hcs, _⟩ | ⟨ad, l, c, elems, rest, n, _, hcs, hx, _, hl, hm, hel, hcell, _⟩
  · simp at hcs
    obtain ⟨rfl, rfl, rfl⟩ := hcs
    exact ⟨[], ⟨rfl, Nat.le_refl _, by simp, .inl rfl⟩, by simp, fun v hv => by cases hv⟩
  · simp at hcs
    obtain ⟨rfl, rfl, rfl⟩ := hcs
    rw [cells44] at hcell
    have hbl : len ≤ Rows.uptoBulk x.1 := by
      rw [hx]
      have := bulk_len (elems.map (·.1))
      simp only [Rows.uptoBulk, List.length_map] at this ⊢
      omega
    have hex : ∀ i, i < len → ∃ t : Wd, W.cell? ((ad.add (i * 2)).add 0) = some (.string t.1) ∧ W.cell? ((ad.add (i * 2)).add 1) = some (.bool t.2) ∧ t.1.size ≤ Rows.uptoBulk x.1 := by
      intro i hi
      have h1 := hcell i hi
      rw [List.getElem?_eq_getElem (by omega)] at h1
      rw [Option.bind_eq_some_iff] at h1
      obtain ⟨cs, h2, h3⟩ := h1
      obtain ⟨_, hlen, hc⟩ := World.cells?_some h2
      match cs, hlen with
      | [v0, v1], _ =>
        obtain ⟨t, e0, e1, hb⟩ := open_term h3
        subst e0 e1
        refine ⟨t, hc 0 (by omega), hc 1 (by omega), Nat.le_trans hb ?_⟩
        have hmem : (elems[i]'(by omega)).1 ∈ elems.map (·.1) := List.mem_map.2 ⟨_, List.getElem_mem _, rfl⟩
        have := bulk_mem hmem
        rw [hx]
        simp only [Rows.uptoBulk]
        omega
    obtain ⟨ws, hlen, hws⟩ := list_ex _ len hex
    refine ⟨ws, ⟨hlen.symm, by simp only [hlen]; exact hl, by simpa only [maxLen] using hm, ?_⟩, hbl, fun v hv => ?_⟩
    · by_cases h0 : len = 0
      · left; exact List.eq_nil_of_length_eq_zero (by omega)
      · right
        obtain ⟨b, off, spot⟩ := ad
        have hc00 := (hws 0 (by omega)).1
        have hspot : spot = none := by simpa [Addr.add] using World.cell?_spot hc00
        subst hspot
        have hlt : b < W.heap.size := by
          have := World.block_lt_of_cell? W _ hc00
          simpa [Addr.add] using this
        refine ⟨b, off, rfl, hlt, fun i hi => ?_⟩
        obtain ⟨e1, e2, _⟩ := hws i hi
        rw [Addr.add_lit, Addr.add_lit] at e1 e2
        exact ⟨by simpa using e1, e2⟩
    · obtain ⟨i, hi, rfl⟩ := List.getElem_of_mem hv
      exact (hws i hi).2.2
theorem open_entry {fuel : Nat} {v0 v1 v2 : Value} {x : DataW H × List MemPlace} (h : DataW.trod enc Tryd.prog W 0 (fun _ => true) true fuel 34 [v0, v1, v2] = some x) : ∃ (y : Sl) (e : En), v0 = .int .i64 e.line ∧ v1 = .bool e.blank ∧ v2 = .slice y.a y.n y.c ∧ WRd W y e.ws ∧ e.ws.length ≤ Rows.uptoBulk x.1 ∧ ∀ v ∈ e.ws, v.1.size ≤ Rows.uptoBulk x.1 := by
  obtain ⟨_, y0, t0, b0⟩ := fld Tryd.underlying34 h 0 _ rfl 1 (by kernel_rfl)
  obtain ⟨_, y1, t1, b1⟩ := fld Tryd.underlying34 h 1 _ rfl 1 (by kernel_rfl)
  obtain ⟨_, y2, t2, b2⟩ := fld Tryd.underlying34 h 2 _ rfl 1 (by kernel_rfl)
  replace t0 : DataW.trod enc Tryd.prog W 0 (fun _ => true) true _ 3 [v0] = some _ := t0
  replace t1 : DataW.trod enc Tryd.prog W 0 (fun _ => true) true _ 4 [v1] = some _ := t1
  replace t2 : DataW.trod enc Tryd.prog W 0 (fun _ => true) true _ 32 [v2] = some _ := t2
  obtain ⟨z, e0, _, _⟩ := DataW.trod_int Tryd.underlying3 t0
  obtain ⟨b, e1, _⟩ := DataW.trod_bool Tryd.underlying4 t1
  simp only [List.cons.injEq, and_true] at e0 e1
  obtain ⟨a, n, c, e2⟩ : ∃ a n c, v2 = Value.slice a n c := by
    rcases DataW.trod_slice Tryd.underlying32 t2 with ⟨hcs, _⟩ | ⟨ad, l, c, elems, rest, n, _, hcs, _⟩
    · simp only [List.cons.injEq, and_true] at hcs; exact ⟨_, _, _, hcs⟩
    · simp only [List.cons.injEq, and_true] at hcs; exact ⟨_, _, _, hcs⟩
  subst e2
  obtain ⟨ws, hw, hb, hv⟩ := open_terms t2
  exact ⟨⟨a, n, c⟩, ⟨z, b, ws⟩, e0, e1, rfl, hw, (by have := hw.1; simp only at this ⊢; omega), fun v h => Nat.le_trans (hv v h) b2⟩
theorem open_entries {a : Option Addr} {len cap fuel : Nat} {x : DataW H × List MemPlace} (hf : DataW.trod enc Tryd.prog W 0 (fun _ => true) true fuel 22 [Value.slice a len cap] = some x) : ∃ es : List En, LE W ⟨a, len, cap⟩ es ∧ es.length ≤ Rows.uptoBulk x.1 ∧ ∀ e ∈ es, e.ws.length ≤ Rows.uptoBulk x.1 ∧ ∀ v ∈ e.ws, v.1.size ≤ Rows.uptoBulk x.1 := by
  rcases DataW.trod_slice Tryd.underlying22 hf with ⟨hcs, _⟩ | ⟨ad, l, c, elems, rest, n, _, hcs, hx, _, hl, hm, hel, hcell, _⟩
  · simp at hcs
    obtain ⟨rfl, rfl, rfl⟩ := hcs
    exact ⟨[], ⟨rfl, Nat.le_refl _, by simp, .inl rfl⟩, by simp, fun v hv => by cases hv⟩
  · simp at hcs
    obtain ⟨rfl, rfl, rfl⟩ := hcs
    rw [cells34] at hcell
    have hbl : len ≤ Rows.uptoBulk x.1 := by
      rw [hx]
      have := bulk_len (elems.map (·.1))
      simp only [Rows.uptoBulk, List.length_map] at this ⊢
      omega
    have hex : ∀ i, i < len → ∃ p : Sl × En, W.cell? ((ad.add (i * 3)).add 0) = some (.int .i64 p.2.line) ∧ W.cell? ((ad.add (i * 3)).add 1) = some (.bool p.2.blank) ∧ W.cell? ((ad.add (i * 3)).add 2) = some (.slice p.1.a p.1.n p.1.c) ∧ WRd W p.1 p.2.ws ∧ p.2.ws.length ≤ Rows.uptoBulk x.1 ∧ ∀ v ∈ p.2.ws, v.1.size ≤ Rows.uptoBulk x.1 := by
      intro i hi
      have h1 := hcell i hi
      rw [List.getElem?_eq_getElem (by omega)] at h1
      rw [Option.bind_eq_some_iff] at h1
      obtain ⟨cs, h2, h3⟩ := h1
      obtain ⟨_, hlen, hc⟩ := World.cells?_some h2
      match cs, hlen with
      | [v0, v1, v2], _ =>
        obtain ⟨y, e, e0, e1, e2, hw, hb1, hb2⟩ := open_entry h3
        subst e0 e1 e2
        have hmem : (elems[i]'(by omega)).1 ∈ elems.map (·.1) := List.mem_map.2 ⟨_, List.getElem_mem _, rfl⟩
        have hle : Rows.uptoBulk (elems[i]'(by omega)).1 ≤ Rows.uptoBulk x.1 := by
          have := bulk_mem hmem
          rw [hx]
          simp only [Rows.uptoBulk]
          omega
        exact ⟨(y, e), hc 0 (by omega), hc 1 (by omega), hc 2 (by omega), hw, Nat.le_trans hb1 hle, fun v hv => Nat.le_trans (hb2 v hv) hle⟩
    obtain ⟨ps, hlen, hps⟩ := list_ex _ len hex
    refine ⟨ps.map (·.2), ⟨by simp [hlen], by simp only [List.length_map, hlen]; exact hl, by simpa only [maxLen] using hm, ?_⟩, by simpa [hlen] using hbl, fun e he => ?_⟩
    · by_cases h0 : len = 0
      · left
        have : ps = [] := List.eq_nil_of_length_eq_zero (by omega)
        rw [this]; rfl
      · right
        obtain ⟨b, off, spot⟩ := ad
        have hc00 := (hps 0 (by omega)).1
        have hspot : spot = none := by simpa [Addr.add] using World.cell?_spot hc00
        subst hspot
        have hlt : b < W.heap.size := by
          have := World.block_lt_of_cell? W _ hc00
          simpa [Addr.add] using this
        refine ⟨b, off, rfl, hlt, fun i hi => ?_⟩
        have hi' : i < ps.length := by simpa using hi
        obtain ⟨e1, e2, e3, e4, _⟩ := hps i hi'
        rw [Addr.add_lit, Addr.add_lit] at e1 e2 e3
        have hgi : (ps.map (·.2))[i] = ps[i].2 := by simp
        rw [hgi]
        exact ⟨ps[i].1, by simpa using e1, e2, e3, e4⟩
    · obtain ⟨p, hp, rfl⟩ := List.mem_map.1 he
      obtain ⟨i, hi, rfl⟩ := List.getElem_of_mem hp
      exact (hps i hi).2.2.2.2
theorem open_entriesB {a : Option Addr} {len cap : Nat} {d : DataW H} {p : List MemPlace} (h : DataW.Trod enc Tryd.prog W 0 (fun _ => true) true 22 (.slice a len cap) d p) (hb : Rows.uptoBulk d ≤ 1048576) : ∃ es, LE W ⟨a, len, cap⟩ es ∧ Few es := by
  obtain ⟨fuel, hf⟩ := h
  obtain ⟨es, h1, h2, h3⟩ := open_entries hf
  exact ⟨es, h1, Nat.le_trans h2 hb, fun e he => ⟨Nat.le_trans (h3 e he).1 hb, fun v hv => Nat.le_trans ((h3 e he).2 v hv) hb⟩⟩
end Go.Proofs.YtgdkeafjglcgaaaDoor
