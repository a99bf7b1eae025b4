/- Questions that came in. -/
import Derived.Test.YtmlccnpondemiaaVo
import Derived.Test.YtmlccnpondemiaaVs
namespace Go.Proofs.Ytmlccnpondemiaa
open Go.ChangeShapes Go.WideShapes Go.ChangeAt Go.RowKit Go.Deep
set_option linter.unusedVariables false
set_option linter.unusedSimpArgs false

variable {H : Type} {enc : TypeId × Value → H} {W : World}
/-- A question's three cells, opened. -/
theorem open_quest3 {fuel : Nat} {v0 v1 v2 : Value} {x : DataW H × List MemPlace} (hf : DataW.trod enc Try.prog W 0 (fun _ => true) true fuel 50 [v0, v1, v2] = some x) :
    ∃ (y : QA) (q : Qn), v0 = .slice y.s.a y.s.n y.s.c ∧ v1 = .int .u16 (y.ty : Int) ∧ v2 = .int .u16 (y.cl : Int) ∧ QOk W y q := by
  obtain ⟨m0, y0, t0⟩ := field_of Try.underlying50 (by kernel_rfl) hf 0 _ v0 rfl rfl
  obtain ⟨m1, y1, t1⟩ := field_of Try.underlying50 (by kernel_rfl) hf 1 _ v1 rfl rfl
  obtain ⟨m2, y2, t2⟩ := field_of Try.underlying50 (by kernel_rfl) hf 2 _ v2 rfl rfl
  obtain ⟨a, n, c, rfl⟩ := slice_of (t := 46) (e := 9) Try.underlying46 t0
  obtain ⟨x1, e1, _, w1⟩ := DataW.trod_int (t := 47) Try.underlying47 t1
  obtain ⟨x2, e2, _, w2⟩ := DataW.trod_int (t := 48) Try.underlying48 t2
  simp only [List.cons.injEq, and_true] at e1 e2
  subst e1 e2
  have b1 := bounds_u16 w1
  have b2 := bounds_u16 w2
  obtain ⟨ss, hss⟩ := open_texts Try.underlying46 t0
  refine ⟨⟨⟨a, n, c⟩, x1.toNat, x2.toNat⟩, ⟨ss, x1.toNat, x2.toNat⟩, rfl, ?_, ?_, hss, rfl, rfl, by show x1.toNat < 65536; omega, by show x2.toNat < 65536; omega⟩
  · show Value.int .u16 x1 = .int .u16 (x1.toNat : Int)
    rw [Int.toNat_of_nonneg b1.1]
  · show Value.int .u16 x2 = .int .u16 (x2.toNat : Int)
    rw [Int.toNat_of_nonneg b2.1]
theorem open_quest {base : Nat} {v : Value} {d : DataW H} {p : List MemPlace} (hv : Value.okWide Try.prog W .any base 50 v) (h : DataW.Trod enc Try.prog W 0 (fun _ => true) true 50 v d p) :
    ∃ (qa : Option Addr) (qn qk qt qc : Nat) (ss : List ByteArray), v = .agg #[.slice qa qn qk, .int .u16 (qt : Int), .int .u16 (qc : Int)] ∧ qt < 65536 ∧ qc < 65536 ∧ TRd W ⟨qa, qn, qk⟩ ss := by
  obtain ⟨cs, rfl, hsz⟩ := okWide_struct Try.underlying50 hv
  obtain ⟨v0, v1, v2, rfl⟩ := Joins.array3 (hsz.trans (by kernel_rfl))
  obtain ⟨fuel, hf⟩ := h
  obtain ⟨y, q, rfl, rfl, rfl, ok⟩ := open_quest3 (v0 := v0) (v1 := v1) (v2 := v2) hf
  exact ⟨y.s.a, y.s.n, y.s.c, y.ty, y.cl, q.nm, rfl, by rw [ok.ty]; exact ok.bt, by rw [ok.cl]; exact ok.bc, ok.rd⟩
theorem cells50 : Try.prog.cellsOf 50 = 3 := by kernel_rfl
theorem open_questions {a : Option Addr} {len cap fuel : Nat} {x : DataW H × List MemPlace} (hf : DataW.trod enc Try.prog W 0 (fun _ => true) true fuel 23 [Value.slice a len cap] = some x) : ∃ qs, QsRd W ⟨a, len, cap⟩ qs := by
  rcases DataW.trod_slice Try.underlying23 hf with ⟨hcs, _⟩ | ⟨x, l, c, elems, rest, n, _, hcs, _, _, hl, hm, hel, hcell, _⟩
  · simp at hcs
    obtain ⟨rfl, rfl, rfl⟩ := hcs
    exact ⟨[], .inl rfl, rfl, ⟨Nat.le_refl _, Nat.zero_le _⟩, fun _ => rfl⟩
  · simp at hcs
    obtain ⟨rfl, rfl, rfl⟩ := hcs
    rw [cells50] at hcell
    have hex : ∀ i, i < len → ∃ q, ∃ y : QA, W.cell? ((x.add (i * 3)).add 0) = some (.slice y.s.a y.s.n y.s.c) ∧ W.cell? ((x.add (i * 3)).add 1) = some (.int .u16 (y.ty : Int)) ∧ W.cell? ((x.add (i * 3)).add 2) = some (.int .u16 (y.cl : Int)) ∧ QOk W y q := by
      intro i hi
      have h1 := hcell i hi
      rw [List.getElem?_eq_getElem (by omega)] at h1
      rw [Option.bind_eq_some_iff] at h1
      obtain ⟨cs, h2, h3⟩ := h1
      obtain ⟨_, hlen, hc⟩ := World.cells?_some h2
      match cs, hlen with
      | [v0, v1, v2], _ =>
        obtain ⟨y, q, rfl, rfl, rfl, ok⟩ := open_quest3 h3
        exact ⟨q, y, (hc 0 (by omega)).trans rfl, (hc 1 (by omega)).trans rfl, (hc 2 (by omega)).trans rfl, ok⟩
    obtain ⟨qs, hlen, hqs⟩ := list_of len _ hex
    refine ⟨qs, ?_, hlen, ⟨hl, by simp only [maxLen] at hm; exact hm⟩, by simp⟩
    by_cases h0 : len = 0
    · left; exact List.eq_nil_of_length_eq_zero (by omega)
    · right
      obtain ⟨b, off, spot⟩ := x
      obtain ⟨y0, hc0, _⟩ := hqs 0 (by omega)
      have hspot : spot = none := by simpa [Addr.add] using World.cell?_spot hc0
      subst hspot
      have hlt : b < W.heap.size := by
        have := World.block_lt_of_cell? W _ hc0
        simpa [Addr.add] using this
      refine ⟨b, off, rfl, hlt, fun i hi => ?_⟩
      obtain ⟨y, e1, e2, e3, ok⟩ := hqs i hi
      refine ⟨y, ?_, ?_, ?_, ok⟩
      · rw [Addr.add_lit, Addr.add_lit] at e1; exact e1
      · rw [Addr.add_lit, Addr.add_lit] at e2; exact e2
      · rw [Addr.add_lit, Addr.add_lit] at e3; exact e3
end Go.Proofs.Ytmlccnpondemiaa
