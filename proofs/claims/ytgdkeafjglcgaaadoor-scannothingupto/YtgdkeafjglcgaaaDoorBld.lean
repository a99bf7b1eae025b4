/- What the library's Builder does in a block of its own. -/
import Derived.Test.YtgdkeafjglcgaaaDoorByt
import Derived.Lib.Builder
import Derived.Lib.UnsafeStr
namespace Go.Proofs.YtgdkeafjglcgaaaDoor
open Go.ChangeShapes Go.WideShapes Go.ChangeAt Go.RowKit
set_option linter.unusedVariables false
set_option linter.unusedSimpArgs false




/-- A Builder's block: what it holds of itself, its bytes. -/
def BB (w : World) (b : Nat) (p v : Value) : Prop := w.heap[b]? = some (.cells #[p, v] 51 (0, 0))
theorem BB.lt {w : World} {b : Nat} {p v : Value} (h : BB w b p v) : b < w.heap.size := (Array.getElem?_eq_some_iff.1 h).1
theorem BB.c0 {w : World} {b : Nat} {p v : Value} (h : BB w b p v) : w.cell? ⟨b, 0, none⟩ = some p := by
  have h' : w.heap[b]? = _ := h
  simp [World.cell?, h']
theorem BB.c1 {w : World} {b : Nat} {p v : Value} (h : BB w b p v) : w.cell? ⟨b, 1, none⟩ = some v := by
  have h' : w.heap[b]? = _ := h
  simp [World.cell?, h']
theorem BB.fz {w : World} {b : Nat} {p v : Value} (h : BB w b p v) (i : Nat) : w.frozen? ⟨b, i, none⟩ = false := by
  have h' : w.heap[b]? = _ := h
  simp [World.frozen?, h']
theorem BB.sh {w : World} {b : Nat} {p v : Value} (h : BB w b p v) : w.shape? b = some (51, 2) := by
  have h' : w.heap[b]? = _ := h
  simp [World.shape?, h']
theorem BB.same {w w' : World} {b : Nat} {p v : Value} (h : BB w b p v) (hb : w'.heap[b]? = w.heap[b]?) : BB w' b p v := hb.trans h
theorem call66 (x : Value) (w : World) : (callFunc 66 #[x]).run Tryd.prog w = .ok (.value x) w := by
  rw [run_callFunc_extern (e := Extern.AbiNoEscape.same) Tryd.func66 (by kernel_rfl) (by kernel_rfl) (by kernel_rfl) (by kernel_rfl) _ w]
  rfl
theorem neq_bld (a : Addr) (w : World) : (binOp .neq 48 (.pointer (some a)) (.pointer (some a))).run Tryd.prog w = .ok (.bool false) w := by
  obtain ⟨j, hi⟩ : ∃ j, Tryd.prog.info? 51 = some j := Option.isSome_iff_exists.1 (by kernel_rfl)
  exact Lib.run_neq_ptr_same w a Tryd.underlying48 hi
theorem to_unsafe (w : World) (b : Nat) (h : w.shape? b = some (51, 2)) : (convert 48 95 (.pointer (some ⟨b, 0, none⟩))).run Tryd.prog w = .ok (.pointer (some ⟨b, 0, none⟩)) w := by
  obtain ⟨j, hi⟩ : ∃ j, Tryd.prog.info? 51 = some j := Option.isSome_iff_exists.1 (by kernel_rfl)
  have hz : (Tryd.prog.info? 51).map (·.size) = some 2 := by kernel_rfl
  rw [hi] at hz
  have hj : j.size = 2 := by simpa using hz
  exact Lib.run_to_unsafe w ⟨b, 0, none⟩ Tryd.underlying48 Tryd.underlying95 hi (by omega) h (by simp)
theorem from_unsafe (w : World) (b : Nat) (h : w.shape? b = some (51, 2)) : (convert 95 48 (.pointer (some ⟨b, 0, none⟩))).run Tryd.prog w = .ok (.pointer (some ⟨b, 0, none⟩)) w := by
  obtain ⟨j, hi⟩ : ∃ j, Tryd.prog.info? 51 = some j := Option.isSome_iff_exists.1 (by kernel_rfl)
  exact Lib.run_from_unsafe w ⟨b, 0, none⟩ Tryd.underlying95 Tryd.underlying48 hi h (by kernel_rfl)
set_option maxRecDepth 100000 in
set_option maxHeartbeats 400000 in
theorem check_fresh (b : Nat) (v : Value) (w : World) (h : BB w b (.pointer none) v) :
    Calls Tryd.prog 54 #[.pointer (some ⟨b, 0, none⟩)] w fun e w' => e = .returned (.tuple #[]) ∧ w' = w.setCell ⟨b, 0, none⟩ (.pointer (some ⟨b, 0, none⟩)) := by
  have c0 := h.c0
  have f0 := h.fz 0
  have h1 := call66
  have h2 := to_unsafe w b h.sh
  have h3 := from_unsafe w b h.sh
  have h4 := neq_bld ⟨b, 0, none⟩
  clear h
  go_enter Tryd.func54, Tryd.ntmps54
  go_wp2
  go_end0
  exact ⟨rfl, rfl⟩
set_option maxRecDepth 100000 in
set_option maxHeartbeats 400000 in
theorem check_used (b : Nat) (v : Value) (w : World) (h : BB w b (.pointer (some ⟨b, 0, none⟩)) v) :
    Calls Tryd.prog 54 #[.pointer (some ⟨b, 0, none⟩)] w fun e w' => e = .returned (.tuple #[]) ∧ w' = w := by
  have c0 := h.c0
  have h4 := neq_bld ⟨b, 0, none⟩
  clear h
  go_enter Tryd.func54, Tryd.ntmps54
  go_wp2
  go_end0
  exact ⟨rfl, rfl⟩
theorem below_row {B : Nat} {w0 w w' : World} {b : Nat} (hb : Below B w0 w) (hlt : b < w.heap.size) (hg : w.grownBy w' (some b)) (hB : B ≤ b) : Below B w0 w' :=
  hb.grown hg (by omega) (fun k e => by have := Option.some.inj e; omega)
/-- A Builder with room for N bytes that holds bs. -/
def BSt (B : Nat) (w : World) (b N : Nat) (bs : List Value) : Prop :=
  (N = 0 ∧ bs = [] ∧ BB w b (.pointer (some ⟨b, 0, none⟩)) (.slice none 0 0)) ∨
  ∃ g c, BB w b (.pointer (some ⟨b, 0, none⟩)) (.slice (some ⟨g, 0, none⟩) bs.length c) ∧ w.ownsRow B 5 1 (.slice (some ⟨g, 0, none⟩) bs.length c) bs.length bs ∧ N ≤ c ∧ g ≠ b ∧ g < w.heap.size ∧ 0 < c
set_option maxRecDepth 100000 in
set_option maxHeartbeats 1000000 in
theorem bwrite (B b N : Nat) (bs : List Value) (z : Int) (w : World) (h : BSt B w b N bs) (hN : bs.length + 1 ≤ N) (hB : B ≤ b) :
    Calls Tryd.prog 35 #[.pointer (some ⟨b, 0, none⟩), .int .u8 z] w fun e w' => e = .returned .nilIface ∧ Hid (BSt B w' b N (bs ++ [.int .u8 z]) ∧ Below B w w') := by
  rcases h with ⟨h0, _⟩ | ⟨g, c, h1, h2, h3, h4, h5, h6⟩
  · omega
  have HB : Hid (BB w b (.pointer (some ⟨b, 0, none⟩)) (.slice (some ⟨g, 0, none⟩) bs.length c) ∧ w.ownsRow B 5 1 (.slice (some ⟨g, 0, none⟩) bs.length c) bs.length bs) := ⟨h1, h2⟩
  have c1 := h1.c1
  have hlt := h1.lt
  have f1 := h1.fz 1
  clear h1 h2
  go_enter Tryd.func35, Tryd.ntmps35
  go_wp2_with fail
  refine (check_used b _ _ HB.out.1).mono ?_
  rintro e w1 ⟨rfl, rfl⟩
  obtain ⟨i5, hi, hz0, hz1, hz2⟩ := info_parts Tryd.info5
  have HI : Hid (Tryd.prog.info? 5 = some i5 ∧ i5.size = 1) := ⟨hi, hz1⟩
  clear hi hz0 hz1 hz2
  have HO : Hid ((w1.alloc (.cells #[.int .u8 z] 5)).ownsRow B 5 1 (.slice (some ⟨g, 0, none⟩) bs.length c) bs.length bs) := HB.out.2.alloc _
  have HC : Hid (∀ j u, ([.int .u8 z] : List Value)[j]? = some u → (w1.alloc (.cells #[.int .u8 z] 5)).cell? ((⟨w1.heap.size, 0, none⟩ : Addr).add j) = some u) := by
    intro j u hu
    have hj : j = 0 := by have := (List.getElem?_eq_some_iff.1 hu).1; simp at this; omega
    subst hj
    simp at hu
    subst hu
    simp [go_sem, Addr.add]
  go_wp2_with (at_builtin; refine wpList_append_fits _ rfl _ _ 49 rfl B 5 i5 1 Tryd.underlying49 HI.out.1 HI.out.2 g bs.length c bs rfl HO.out ⟨w1.heap.size, 0, none⟩ 1 1 [.int .u8 z] rfl rfl HC.out (by intro u hu; simp at hu; subst hu; rfl) (by omega) ?_; intro w2 hown2 hgr2; have hbk : Hid (w2.heap[b]? = w1.heap[b]?) := (hgr2.block b (by simp; omega) (fun e => h4 (Option.some.inj e).symm)).trans (Below.heap_alloc _ _ b hlt); have d1 := (HB.out.1.same hbk.out).c1; have d2 := (HB.out.1.same hbk.out).fz 1; have HG2 : Hid ((w1.alloc (.cells #[.int .u8 z] 5)).grownBy w2 (some g) ∧ w2.ownsRow B 5 1 (.slice (some ⟨g, 0, none⟩) (bs.length + 1) c) (bs.length + 1) (bs ++ [.int .u8 z])) := ⟨hgr2, hown2⟩; clear hown2 hgr2)
  go_ret
  have hBg : B ≤ g := (HB.out.2.lt g rfl).1
  have hgs : g < w2.heap.size := (HG2.out.2.lt g rfl).2
  have hb2 := HB.out.1.same hbk.out
  have hbel : Below B w1 w2 := ((Below.refl B w1).alloc (by omega) _).grown HG2.out.1 (by simp; omega) (fun k e => by have := Option.some.inj e; omega)
  refine ⟨rfl, .inr ⟨g, c, ?_, ?_, h3, h4, by simpa [World.setCell] using hgs, h6⟩, hbel.setCell hB _⟩
  · have := heap_set hb2 1 (.slice (some ⟨g, 0, none⟩) (bs.length + 1) c)
    simpa [BB] using this
  · have := HG2.out.2.kept (w' := w2.setCell ⟨b, 1, none⟩ (.slice (some ⟨g, 0, none⟩) (bs.length + 1) c)) (row := some b) ⟨rfl, rfl, rfl, by simp [World.setCell], fun k _ hk => Below.heap_setCell _ _ _ _ (fun e => hk (by simp [e]))⟩ (.inr (fun e => h4 (Option.some.inj e)))
    simpa using this
theorem freeze_other (w : World) (g n b : Nat) (h : g ≠ b) : (w.freeze ⟨g, 0, none⟩ n).heap[b]? = w.heap[b]? := by
  unfold World.freeze
  split
  · rfl
  · simp [Array.getElem?_modify, h]
set_option maxRecDepth 100000 in
set_option maxHeartbeats 1000000 in
theorem bstring (B b N : Nat) (l : List UInt8) (w : World) (h : BSt B w b N (Lib.byteCells l)) (hN : l.length = N) (hl : l.length ≤ 9223372036854775807) :
    Calls Tryd.prog 22 #[.pointer (some ⟨b, 0, none⟩)] w fun e w' => e = .returned (.string ⟨l.toArray⟩) ∧ Hid (Below B w w') := by
  rcases h with ⟨h0, h1, h2⟩ | ⟨g, c, h1, h2, h3, h4, h5, h6⟩
  · have hl0 : l = [] := List.eq_nil_of_length_eq_zero (by omega)
    subst hl0
    have c1 := h2.c1
    have hlt := h2.lt
    have s1 : ∀ (W : World) (ts : Array TypeId) (ty : TypeId), (Builtin.unsafeSliceData_ ts ty #[.slice none 0 0]).run Tryd.prog W = .ok (.pointer none) W := fun W ts ty => Lib.run_unsafeSliceData_nil W ts ty 0 0
    have s2 : ∀ (W : World) (ty : TypeId), (Builtin.unsafeString_ #[71, 3] ty #[.pointer none, .int .i64 0]).run Tryd.prog W = .ok (.string .empty) W := fun W ty => Lib.run_unsafeString_none W 71 3 ty none
    clear h1 h2
    go_enter Tryd.func22, Tryd.ntmps22
    go_wp2_with fail
    go_region_held3 (fun W => W.cell? ⟨b, 1, none⟩ = some (.slice none 0 0)) (go_keep) (fail)
    go_wp2
    go_ret
    exact ⟨rfl, (Below.refl _ _).drew⟩
  · rw [Lib.byteCells_length] at h1 h2
    have c1 := h1.c1
    have hlt := h1.lt
    have s1 : ∀ (W : World) (ts : Array TypeId) (ty : TypeId), (Builtin.unsafeSliceData_ ts ty #[.slice (some ⟨g, 0, none⟩) l.length c]).run Tryd.prog W = .ok (.pointer (some ⟨g, 0, none⟩)) W := fun W ts ty => Lib.run_unsafeSliceData_row W ts ty _ _ _ (by omega)
    by_cases h0 : l = []
    · subst h0
      have s2 : ∀ (W : World) (ty : TypeId), (Builtin.unsafeString_ #[71, 3] ty #[.pointer (some ⟨g, 0, none⟩), .int .i64 0]).run Tryd.prog W = .ok (.string .empty) W := fun W ty => Lib.run_unsafeString_none W 71 3 ty _
      clear h1 h2 hN
      simp only [List.length_nil] at c1 s1
      go_enter Tryd.func22, Tryd.ntmps22
      go_wp2_with fail
      go_region_held3 (fun W => W.cell? ⟨b, 1, none⟩ = some (.slice (some ⟨g, 0, none⟩) 0 c)) (go_keep) (fail)
      go_wp2
      go_ret
      exact ⟨rfl, (Below.refl _ _).drew⟩
    · have hBg := (h2.lt g rfl).1
      have s2 : ∀ ty : TypeId, (Builtin.unsafeString_ #[71, 3] ty #[.pointer (some ⟨g, 0, none⟩), .int .i64 l.length]).run Tryd.prog w.drew = .ok (.string ⟨l.toArray⟩) (w.drew.freeze ⟨g, 0, none⟩ l.length) := by
        intro ty
        have hsh : w.drew.shape? g = some (5, c) := by
          rcases h2.2 with ⟨e, _⟩ | ⟨g', cap, cur, e, _, hg, _, _, hs, _⟩
          · cases e
          · have e1 : g = g' := by injection e with e1 _ _; injection e1 with e1; injection e1
            have e2 : c = cap := by injection e
            subst e1; subst e2
            have hg' : w.drew.heap[g]? = some (.cells cur 5 (0, 0)) := hg
            simp [World.shape?, hg', hs]
        exact Lib.run_unsafeString_row w.drew 71 3 ty 5 Tryd.underlying71 (by kernel_rfl) g c hsh l h0 (by omega) hl (fun j x hx => by
          have := h2.cells (g := g) rfl j (.int .u8 x.toNat) (by simp [Lib.byteCells, hx])
          exact this)
      have HF : Hid (Below B w (w.drew.freeze ⟨g, 0, none⟩ l.length)) := Lib.below_freeze (Below.refl _ _).drew hBg _
      have hfc : (w.drew.freeze ⟨g, 0, none⟩ l.length).cell? ⟨b, 1, none⟩ = some (.slice (some ⟨g, 0, none⟩) l.length c) := (World.cell?_of_block (w := w) (a := ⟨b, 1, none⟩) (freeze_other w.drew g l.length b h4)).trans c1
      clear h1 h2 hN
      generalize hll : l.length = ll at *
      clear hll
      go_enter Tryd.func22, Tryd.ntmps22
      go_wp2_with fail
      go_region_held3 (fun W => W.cell? ⟨b, 1, none⟩ = some (.slice (some ⟨g, 0, none⟩) ll c)) (go_keep) (fail)
      go_wp2
      go_ret
      exact ⟨rfl, HF.out⟩
end Go.Proofs.YtgdkeafjglcgaaaDoor
