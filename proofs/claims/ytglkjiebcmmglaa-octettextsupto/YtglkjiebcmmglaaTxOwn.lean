/- Proved: for all lists of bytes and every text that are together of bulk at most 1,048,576 (the second form), the statement's function about digits and joined pieces returns true, and each argument reads as before. -/
import Derived.Test.YtglkjiebcmmglaaTxWalk
import Derived.WalkKit
import Derived.ProofKit
import Derived.OpenShut
import Derived.ShutString
import Derived.ChangeOld
import Derived.Below
import Derived.JoinedCond
import Derived.Deep.Matrix
namespace Go.Proofs.Ytglkjiebcmmglaa
open Go.ChangeShapes Go.WideShapes Go.ChangeAt Go.RowKit Go.Deep
open Go.ChangeMaps (open_string shut_string)
set_option linter.unusedVariables false
set_option linter.unusedSimpArgs false

set_option maxRecDepth 100000 in
set_option maxHeartbeats 2000000 in
theorem texts_quick (ad : Option Addr) (N C : Nat) (s : ByteArray) (w : World) (hN : N ≤ 9223372036854775807) (hs : s.size ≤ 9223372036854775807) (hq : (2000 < s.size ∧ s.size ≤ 131070) ∨ 131080 < s.size ∨ 30 < N) :
    Calls Try.prog 4 #[.slice ad N C, .string s] w fun e w' => e = .returned (.bool true) ∧ Below w.heap.size w w' := by
  have hor : ((2000 : Int) < (s.size : Int) ∧ (s.size : Int) ≤ 131070) ∨ ((2000 : Int) < (s.size : Int) ∧ ¬ (s.size : Int) ≤ 131070 ∧ (131080 : Int) < (s.size : Int)) ∨
      (¬ (2000 : Int) < (s.size : Int) ∧ ¬ (131080 : Int) < (s.size : Int) ∧ (30 : Int) < (N : Int)) ∨ ((2000 : Int) < (s.size : Int) ∧ ¬ (s.size : Int) ≤ 131070 ∧ ¬ (131080 : Int) < (s.size : Int) ∧ (30 : Int) < (N : Int)) := by omega
  clear hq
  rcases hor with ⟨h1, h2⟩ | ⟨h1, h2, h3⟩ | ⟨h1, h2, h3⟩ | ⟨h1, h2, h3, h4⟩
  all_goals
    go_enter Try.func4, Try.ntmps4
    go_wp2
    go_ret
    exact ⟨rfl, Below.refl _ _⟩

theorem texts_walk (ad : Option Addr) (N C : Nat) (ps : List Piece) (s : ByteArray) (w : World) (hN : ps.length = N) (hp : PcsA w ad ps) (hN63 : N ≤ 9223372036854775807) (hs : s.size ≤ 9223372036854775807) (hT : (jn ps ps.length).length ≤ 1048576) (hle : ∀ k (h : k < ps.length), ps[k].2.2.length ≤ ps[k].2.1 ∧ ps[k].2.2.length ≤ 1048576) :
    Calls Try.prog 4 #[.slice ad N C, .string s] w fun e w' => e = .returned (.bool true) ∧ Below w.heap.size w w' := by
  by_cases hq : (2000 < s.size ∧ s.size ≤ 131070) ∨ 131080 < s.size ∨ 30 < N
  · exact texts_quick ad N C s w hN63 hs hq
  · exact texts_main ad N C ps s w hN hp (by omega) (by omega) hT hle

theorem bulk_lits {H : Type} (k : IntKind) (zs : List Int) : Rows.uptoBulkAll (lits (H := H) k zs) = zs.length := by
  induction zs with
  | nil => simp [lits, Rows.uptoBulkAll]
  | cons z zs ih =>
    simp only [lits, List.map_cons, Rows.uptoBulkAll, List.length_cons] at ih ⊢
    rw [ih]
    simp [Rows.uptoBulk]
    omega
theorem bulk_row {H : Type} (a : Option Addr) (l c : Nat) (zs : List Int) (h : zs.length = c) (hn : a = none → c = 0) : (zs.take l).length ≤ Rows.uptoBulk (intRow (H := H) .u8 a l zs) := by
  cases a with
  | none =>
    have := hn rfl
    have e : zs = [] := List.eq_nil_of_length_eq_zero (by omega)
    rw [e]; simp
  | some x =>
    simp only [intRow, Rows.uptoBulk, bulk_lits]
    omega
theorem bulk_flat {H : Type} (A : Nat → Option Addr) (L C : Nat → Nat) (Z : Nat → List Int) : ∀ rs : List Nat, (∀ r ∈ rs, (Z r).length = C r ∧ (A r = none → C r = 0)) →
    ((rs.map fun r => ((A r, C r, (Z r).take (L r)) : Piece)).flatMap (·.2.2)).length ≤ Rows.uptoBulkAll (rs.map fun r => intRow (H := H) .u8 (A r) (L r) (Z r))
  | [], _ => by simp [Rows.uptoBulkAll]
  | r :: rs, h => by
    have ih := bulk_flat (H := H) A L C Z rs (fun q hq => h q (by simp [hq]))
    have h1 := h r (by simp)
    have := bulk_row (H := H) (A r) (L r) (C r) (Z r) h1.1 h1.2
    simp only [List.map_cons, List.flatMap_cons, List.length_append, Rows.uptoBulkAll] at ih ⊢
    omega
theorem bulk_mem {H : Type} {d : DataW H} {l : List (DataW H)} (h : d ∈ l) : Rows.uptoBulk d ≤ Rows.uptoBulkAll l := by
  induction l with
  | nil => cases h
  | cons x r ih =>
    simp only [Rows.uptoBulkAll]
    cases List.mem_cons.1 h with
    | inl e => subst e; omega
    | inr e => have := ih e; omega

/-- Lists of bytes that came in can be read. -/
theorem open_lists {H : Type} {enc : TypeId × Value → H} {W : World} {a : Option Addr} {len cap : Nat} {d : DataW H} {p : List MemPlace} (h : DataW.Trod enc Try.prog W 0 (fun _ => true) true 37 (Value.slice a len cap) d p) (hk : Rows.uptoBulk d ≤ 1048576) :
    ∃ ps : List Piece, ps.length = len ∧ len ≤ 9223372036854775807 ∧ PcsA W a ps ∧ (jn ps ps.length).length ≤ 1048576 ∧ ∀ k (h : k < ps.length), ps[k].2.2.length ≤ ps[k].2.1 ∧ ps[k].2.2.length ≤ 1048576 := by
  obtain ⟨fuel, hf⟩ := h
  rcases open_int_rows Try.underlying37 Try.underlying23 Try.underlying5 (by kernel_rfl) (by kernel_rfl) hf with ⟨hcs, _⟩ | ⟨x, l, c, A, L, Cc, Z, hcs, _, hl, hm, hx, hcell⟩
  · simp [Value.cells] at hcs
    obtain ⟨rfl, rfl, rfl⟩ := hcs
    exact ⟨[], rfl, by omega, .inl rfl, by simp [jn], fun k h => by simp at h⟩
  · simp [Value.cells] at hcs
    obtain ⟨rfl, rfl, rfl⟩ := hcs
    have hd := (Prod.mk.inj hx).1
    rw [hd] at hk
    simp only [Rows.uptoBulk] at hk
    refine ⟨(List.range len).map fun r => ((A r, Cc r, (Z r).take (L r)) : Piece), by simp, by simp only [maxLen] at hm; omega, ?_, ?_, ?_⟩
    · by_cases h0 : len = 0
      · left; rw [h0]; rfl
      · right
        obtain ⟨b, off, spot⟩ := x
        have hspot : spot = none := by simpa [Addr.add] using World.cell?_spot (hcell 0 (by omega)).1
        subst hspot
        have hlt : b < W.heap.size := by
          have := World.block_lt_of_cell? W _ (hcell 0 (by omega)).1
          simpa [Addr.add] using this
        refine ⟨b, off, rfl, hlt, fun k hkk => ?_⟩
        have hkl : k < len := by simpa using hkk
        obtain ⟨q1, q2, q3, q4, q5, q6, q7⟩ := hcell k (by omega)
        simp only [List.getElem_map, List.getElem_range]
        have hzl : ((Z k).take (L k)).length = L k := by rw [List.length_take, q4]; omega
        refine ⟨?_, ⟨?_, ?_⟩, q6⟩
        · rw [Addr.add_lit] at q1
          rw [q1, hzl]
        · by_cases hc0 : L k = 0
          · left; rw [hc0]; rfl
          · right
            cases hA : A k with
            | none => have := q6 hA; omega
            | some y =>
              obtain ⟨_, q8⟩ := q7 y hA
              obtain ⟨b2, o2, sp2⟩ := y
              have c0 := q8 0 (by omega)
              have hsp2 : sp2 = none := by simpa [Addr.add] using World.cell?_spot c0
              subst hsp2
              have hlt2 : b2 < W.heap.size := by
                have := World.block_lt_of_cell? W _ c0
                simpa [Addr.add] using this
              refine ⟨b2, o2, rfl, hlt2, fun i hi => ?_⟩
              rw [hzl] at hi
              have := q8 i (by omega)
              rw [Addr.add_lit] at this
              rw [this]
              simp [List.getD_eq_getElem?_getD, hi]
        · intro z hz2
          have := q5 z (List.mem_of_mem_take hz2)
          simp [Lit.wf, IntKind.min, IntKind.max, IntKind.bits, IntKind.signed] at this
          omega
    · have := bulk_flat (H := H) A L Cc Z (List.range len) (fun r hr => by
        have := List.mem_range.1 hr
        obtain ⟨q1, q2, q3, q4, q5, q6, q7⟩ := hcell r (by omega)
        exact ⟨q4, q6⟩)
      rw [jn_all]
      exact Nat.le_trans this (by omega)
    · intro k hkk
      have hkl : k < len := by simpa using hkk
      obtain ⟨q1, q2, q3, q4, q5, q6, q7⟩ := hcell k (by omega)
      simp only [List.getElem_map, List.getElem_range]
      have h1 := bulk_row (H := H) (A k) (L k) (Cc k) (Z k) q4 q6
      have h2 := bulk_mem (H := H) (d := intRow .u8 (A k) (L k) (Z k)) (l := (List.range len).map fun r => intRow .u8 (A r) (L r) (Z r)) (List.mem_map.2 ⟨k, List.mem_range.2 hkl, rfl⟩)
      refine ⟨by rw [List.length_take, q4]; omega, by omega⟩

theorem texts_own : ownKnob Try.prog.godebug = none := by kernel_rfl
theorem texts_laidOut : laidOutB Try.prog = true := by kernel_rfl

set_option maxRecDepth 100000 in
theorem texts_lifted (os : Os) (started : os.Started) (H : Type) (enc : TypeId × Value → H) (F : Stop.Interp) :
    ReturnsInHanded {} Try.checked os 4 .any ((Rows.OpenSpec.upto Rows.octetTextsSpec).pre6 enc Try.prog Try.f4 Rows.octetTextsUptoRow.domain false) (((Rows.OpenSpec.upto Rows.octetTextsSpec).at F).post enc Try.prog Try.f4 false true false false) := by
  refine returnsInHanded_of_cond (C := Try.checked) (s := Rows.OpenSpec.upto Rows.octetTextsSpec) (k := Rows.uptoSmall) rfl texts_own started (by kernel_rfl) Try.func4
    (OpenSpec.witness (enc := enc) (C := Try.checked) (s := Rows.OpenSpec.upto Rows.octetTextsSpec) (k := Rows.uptoSmall) rfl false ⟨#[], #[.slice none 0 0, .string .empty], []⟩ 8 (by kernel_rfl) (by kernel_rfl) (by kernel_rfl)
      (x := ([.nil, .lit (.string [])], [], [])) (by kernel_rfl) rfl (by kernel_rfl)) ?_
  intro W base args ds gs before hval0 hW _ hk _
  have hval : ∀ (j : Nat) t v, Try.f4.params[j]? = some t → args[j]? = some v → Value.okWide Try.prog W .any base t v := hval0
  have hW' := hW
  obtain ⟨p, q, hA0, hV, rfl, hfz, hnd⟩ := hW
  have hA : DataW.TrodAll enc Try.prog W 0 (fun _ => true) true Try.f4.params.toList args.toList ds p := hA0
  rw [Try.params4] at hA hval
  obtain ⟨v0, vs0, d0, ds0, p0, q0, hargs, rfl, rfl, h0, r0⟩ := trodAll_cons hA
  obtain ⟨v1, vs1, d1, ds1, p1, q1, rfl, rfl, rfl, h1, r1⟩ := trodAll_cons r0
  obtain ⟨rfl, rfl, rfl⟩ := trodAll_nil r1
  obtain rfl : args = #[v0, v1] := by cases args; simp_all
  obtain ⟨rfl, rfl⟩ := trodVars_none hV
  obtain ⟨a0, len0, cap0, rfl⟩ := okWide_slice Try.underlying37 (hval 0 37 v0 rfl rfl)
  have k0 := h0
  have lt0 : ∀ x ∈ p0, x.block < W.heap.size := by obtain ⟨m, hm⟩ := k0; exact DataW.trod_lt m _ _ _ hm
  obtain ⟨a1, rfl, rfl, rfl, w1⟩ := open_string Try.underlying9 (hval 1 9 v1 rfl rfl) h1
  clear hA0 hval0
  have hk2 : Rows.uptoBulkAll ([d0, DataW.lit (H := H) (.string a1.data.toList)] ++ []) ≤ 1048576 := of_decide_eq_true hk
  simp only [List.append_nil, Rows.uptoBulkAll] at hk2
  obtain ⟨ps, e1, e2, e3, e4, e5⟩ := open_lists k0 (by omega)
  refine (texts_walk a0 len0 cap0 ps a1 W e1 e3 e2 (by simp only [maxLen] at w1; omega) e4 e5).mono fun e W' ⟨he, bel⟩ => ?_
  subst he
  exact ⟨_, rfl, _, _, _, [], _, [], hW', trodAll_mk1 (shut_bool Try.underlying4 _), (trodAll_cons_mk (Below.trod texts_laidOut (by kernel_rfl) (of_decide_eq_true (by kernel_rfl)) k0 bel lt0) (trodAll_cons_mk (shut_string Try.underlying9 w1) trodAll_mk0)), rfl, bel.frame _, fun h => by cases h⟩

theorem octet_texts_upto_holds : Rows.OctetTextsUptoSaid :=
  OpenClaim.holds_of_cond 4 Try.f4 rfl rfl rfl rfl rfl rfl rfl ⟨rfl, rfl, rfl, rfl, rfl⟩ rfl rfl rfl rfl rfl (by kernel_rfl) Try.func4 (by kernel_rfl)
    (of_decide_eq_true (by kernel_rfl)) (by unfold Func.isWrapper; first | (rw [if_pos (by decide +kernel)]; kernel_rfl) | (rw [if_neg (by decide +kernel)]; exact ⟨rfl, rfl⟩))
    (fun os started H enc _ F => texts_lifted os started H enc F)
#print axioms octet_texts_upto_holds
end Go.Proofs.Ytglkjiebcmmglaa
