/- Messages and counts that came in. -/
import Derived.Test.YtmlccnpondemiaaDm
namespace Go.Proofs.Ytmlccnpondemiaa
open Go.ChangeShapes Go.WideShapes Go.ChangeAt Go.RowKit Go.Deep
set_option linter.unusedVariables false
set_option linter.unusedSimpArgs false

theorem array14 {α : Type} {cs : Array α} (h : cs.size = 14) : ∃ v0 v1 v2 v3 v4 v5 v6 v7 v8 v9 v10 v11 v12 v13, cs = #[v0, v1, v2, v3, v4, v5, v6, v7, v8, v9, v10, v11, v12, v13] := by
  obtain ⟨l⟩ := cs
  match l, h with
  | [v0, v1, v2, v3, v4, v5, v6, v7, v8, v9, v10, v11, v12, v13], _ => exact ⟨v0, v1, v2, v3, v4, v5, v6, v7, v8, v9, v10, v11, v12, v13, rfl⟩
variable {H : Type} {enc : TypeId × Value → H} {W : World}
theorem field_of {t : TypeId} {fs : Array Field} {fuel : Nat} {cs : List Value} {x : DataW H × List MemPlace} (ht : Try.prog.underlying t = some (.struct fs)) (hone : oneCellFields Try.prog fs = true) (h : DataW.trod enc Try.prog W 0 (fun _ => true) true fuel t cs = some x) (i : Nat) (f : Field) (v : Value) (hf : fs[i]? = some f) (hv : cs[i]? = some v) :
    ∃ n y, DataW.trod enc Try.prog W 0 (fun _ => true) true n f.type [v] = some y := by
  obtain ⟨xs, n, _, _, _, hlen, hall⟩ := DataW.trod_struct ht h
  obtain ⟨o, k⟩ := hone_of hone i f hf
  have := hall i f hf
  rw [o, k] at this
  have hi : i < fs.size := (Array.getElem?_eq_some_iff.1 hf).1
  have e : (cs.drop i).take 1 = [v] := by
    obtain ⟨hi2, e2⟩ := List.getElem?_eq_some_iff.1 hv
    rw [List.drop_eq_getElem_cons hi2, e2]; rfl
  rw [e] at this
  exact ⟨n, _, this.trans (List.getElem?_eq_getElem (by rw [hlen]; exact hi))⟩
/-- A message's value, opened: its fields; each list's value with what is read of it. -/
theorem open_msg {base : Nat} {v : Value} {d : DataW H} {p : List MemPlace} (hv : Value.okWide Try.prog W .any base 26 v) (h : DataW.Trod enc Try.prog W 0 (fun _ => true) true 26 v d p) :
    ∃ (id : Nat) (rs : Bool) (op : Int) (aa tc rd ra ad cd : Bool) (rc : Int) (a1 a2 a3 a4 : Option Addr) (n1 n2 n3 n4 k1 k2 k3 k4 : Nat), v = .agg #[.int .u16 (id : Int), .bool rs, .int .i64 op, .bool aa, .bool tc, .bool rd, .bool ra, .bool ad, .bool cd, .int .i64 rc, .slice a1 n1 k1, .slice a2 n2 k2, .slice a3 n3 k3, .slice a4 n4 k4] ∧ id < 65536 ∧
      (∃ n y, DataW.trod enc Try.prog W 0 (fun _ => true) true n 23 [.slice a1 n1 k1] = some y) ∧ (∃ n y, DataW.trod enc Try.prog W 0 (fun _ => true) true n 24 [.slice a2 n2 k2] = some y) ∧ (∃ n y, DataW.trod enc Try.prog W 0 (fun _ => true) true n 24 [.slice a3 n3 k3] = some y) ∧ (∃ n y, DataW.trod enc Try.prog W 0 (fun _ => true) true n 24 [.slice a4 n4 k4] = some y) ∧
      (-9223372036854775808 ≤ op ∧ op ≤ 9223372036854775807) ∧ (-9223372036854775808 ≤ rc ∧ rc ≤ 9223372036854775807) := by
  obtain ⟨cs, rfl, hsz⟩ := okWide_struct Try.underlying26 hv
  obtain ⟨v0, v1, v2, v3, v4, v5, v6, v7, v8, v9, v10, v11, v12, v13, rfl⟩ := array14 (hsz.trans (by kernel_rfl))
  obtain ⟨fuel, hf⟩ := h
  obtain ⟨m0, y0, t0⟩ := field_of Try.underlying26 (by kernel_rfl) hf 0 _ v0 rfl rfl
  obtain ⟨m1, y1, t1⟩ := field_of Try.underlying26 (by kernel_rfl) hf 1 _ v1 rfl rfl
  obtain ⟨m2, y2, t2⟩ := field_of Try.underlying26 (by kernel_rfl) hf 2 _ v2 rfl rfl
  obtain ⟨m3, y3, t3⟩ := field_of Try.underlying26 (by kernel_rfl) hf 3 _ v3 rfl rfl
  obtain ⟨m4, y4, t4⟩ := field_of Try.underlying26 (by kernel_rfl) hf 4 _ v4 rfl rfl
  obtain ⟨m5, y5, t5⟩ := field_of Try.underlying26 (by kernel_rfl) hf 5 _ v5 rfl rfl
  obtain ⟨m6, y6, t6⟩ := field_of Try.underlying26 (by kernel_rfl) hf 6 _ v6 rfl rfl
  obtain ⟨m7, y7, t7⟩ := field_of Try.underlying26 (by kernel_rfl) hf 7 _ v7 rfl rfl
  obtain ⟨m8, y8, t8⟩ := field_of Try.underlying26 (by kernel_rfl) hf 8 _ v8 rfl rfl
  obtain ⟨m9, y9, t9⟩ := field_of Try.underlying26 (by kernel_rfl) hf 9 _ v9 rfl rfl
  obtain ⟨m10, y10, t10⟩ := field_of Try.underlying26 (by kernel_rfl) hf 10 _ v10 rfl rfl
  obtain ⟨m11, y11, t11⟩ := field_of Try.underlying26 (by kernel_rfl) hf 11 _ v11 rfl rfl
  obtain ⟨m12, y12, t12⟩ := field_of Try.underlying26 (by kernel_rfl) hf 12 _ v12 rfl rfl
  obtain ⟨m13, y13, t13⟩ := field_of Try.underlying26 (by kernel_rfl) hf 13 _ v13 rfl rfl
  obtain ⟨x0, e0, _, w0⟩ := DataW.trod_int (t := 22) Try.underlying22 t0
  obtain ⟨x1, e1, _⟩ := DataW.trod_bool (t := 4) Try.underlying4 t1
  obtain ⟨x2, e2, _, w2⟩ := DataW.trod_int (t := 3) Try.underlying3 t2
  obtain ⟨x3, e3, _⟩ := DataW.trod_bool (t := 4) Try.underlying4 t3
  obtain ⟨x4, e4, _⟩ := DataW.trod_bool (t := 4) Try.underlying4 t4
  obtain ⟨x5, e5, _⟩ := DataW.trod_bool (t := 4) Try.underlying4 t5
  obtain ⟨x6, e6, _⟩ := DataW.trod_bool (t := 4) Try.underlying4 t6
  obtain ⟨x7, e7, _⟩ := DataW.trod_bool (t := 4) Try.underlying4 t7
  obtain ⟨x8, e8, _⟩ := DataW.trod_bool (t := 4) Try.underlying4 t8
  obtain ⟨x9, e9, _, w9⟩ := DataW.trod_int (t := 3) Try.underlying3 t9
  obtain ⟨s10, l10, c10, rfl⟩ := slice_of (t := 23) (e := 50) Try.underlying23 t10
  obtain ⟨s11, l11, c11, rfl⟩ := slice_of (t := 24) (e := 79) Try.underlying24 t11
  obtain ⟨s12, l12, c12, rfl⟩ := slice_of (t := 24) (e := 79) Try.underlying24 t12
  obtain ⟨s13, l13, c13, rfl⟩ := slice_of (t := 24) (e := 79) Try.underlying24 t13
  simp only [List.cons.injEq, and_true] at e0 e1 e2 e3 e4 e5 e6 e7 e8 e9
  subst e0 e1 e2 e3 e4 e5 e6 e7 e8 e9
  have b0 := bounds_u16 w0
  obtain ⟨id, rfl⟩ : ∃ n : Nat, x0 = (n : Int) := ⟨x0.toNat, by omega⟩
  exact ⟨id, x1, x2, x3, x4, x5, x6, x7, x8, x9, s10, s11, s12, s13, l10, l11, l12, l13, c10, c11, c12, c13, rfl, by omega, ⟨_, _, t10⟩, ⟨_, _, t11⟩, ⟨_, _, t12⟩, ⟨_, _, t13⟩, bounds_i64 w2, bounds_i64 w9⟩
theorem open_counts {base : Nat} {v : Value} {d : DataW H} {p : List MemPlace} (hv : Value.okWide Try.prog W .any base 27 v) (h : DataW.Trod enc Try.prog W 0 (fun _ => true) true 27 v d p) :
    ∃ c0 c1 c2 c3 : Int, v = .agg #[.int .i64 c0, .int .i64 c1, .int .i64 c2, .int .i64 c3] := by
  obtain ⟨cs, rfl, hsz⟩ : ∃ cs : Array Value, v = .agg cs ∧ cs.size = Try.prog.cellsOf 27 := by
    simp only [Value.okWide, Try.underlying27] at hv
    obtain ⟨cs, h1, h2, _⟩ := hv
    exact ⟨cs, h1, h2⟩
  obtain ⟨v0, v1, v2, v3, rfl⟩ := Joins.array4 (hsz.trans (by kernel_rfl))
  obtain ⟨fuel, hf⟩ := h
  obtain ⟨xs, m, _, _, _, hlen, hall⟩ := DataW.trod_array Try.underlying27 hf
  have hc : Try.prog.cellsOf 3 = 1 := by kernel_rfl
  rw [hc] at hall
  have g0 := hall 0 (by omega)
  have g1 := hall 1 (by omega)
  have g2 := hall 2 (by omega)
  have g3 := hall 3 (by omega)
  simp only [Value.cells, Nat.zero_mul, Nat.one_mul, Nat.mul_one, List.drop_zero, List.drop_succ_cons, List.take_succ_cons, List.take_zero] at g0 g1 g2 g3
  rw [List.getElem?_eq_getElem (by omega)] at g0 g1 g2 g3
  obtain ⟨x0, e0, _, _⟩ := DataW.trod_int (t := 3) Try.underlying3 g0
  obtain ⟨x1, e1, _, _⟩ := DataW.trod_int (t := 3) Try.underlying3 g1
  obtain ⟨x2, e2, _, _⟩ := DataW.trod_int (t := 3) Try.underlying3 g2
  obtain ⟨x3, e3, _, _⟩ := DataW.trod_int (t := 3) Try.underlying3 g3
  simp only [List.cons.injEq, and_true] at e0 e1 e2 e3
  subst e0 e1 e2 e3
  exact ⟨x0, x1, x2, x3, rfl⟩
end Go.Proofs.Ytmlccnpondemiaa
