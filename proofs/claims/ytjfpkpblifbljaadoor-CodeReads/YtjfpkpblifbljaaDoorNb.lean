/- The number of digits, and what stands for a word's number, as the program reads them. -/
import Derived.Test.YtjfpkpblifbljaaDoorWd
namespace Go.Proofs.YtjfpkpblifbljaaDoor
open Go.ChangeShapes Go.WideShapes Go.ChangeAt Go.RowKit
set_option linter.unusedVariables false
set_option linter.unusedSimpArgs false

/-- What is told of a number, or of none: the number and OK, or 0 and ErrType. -/
def Res (o : Option Nat) (x y : Int) : Prop := (∀ n, o = some n → x = (n : Int) ∧ y = 0) ∧ (o = none → x = 0 ∧ y = 6)
theorem Res.no {o : Option Nat} (h : o = none) : Res o 0 6 := ⟨fun n hn => (by rw [h] at hn; cases hn), fun _ => ⟨rfl, rfl⟩⟩
theorem Res.yes {o : Option Nat} {n : Nat} (h : o = some n) : Res o (n : Int) 0 := ⟨fun m hm => (by rw [h] at hm; cases hm; exact ⟨rfl, rfl⟩), fun hn => (by rw [h] at hn; cases hn)⟩
theorem bytes_toList (t : ByteArray) (l : List UInt8) (h : t.data.toList = l) : t = ⟨l.toArray⟩ := by
  apply ByteArray.ext
  simp [← h]

set_option maxRecDepth 100000 in
set_option maxHeartbeats 1000000 in
theorem number_any (s pre : ByteArray) (most : Nat) (hm : most < 65536) (t : ByteArray) (ht : t.size ≤ 140737488355328) (w : World) (hL : LayT w) (hE : LayE w) :
    Calls Tryd.prog 48 #[.agg #[.string s, .string pre, .int .i64 most], .string t] w fun e w' => ∃ x y, e = .returned (.tuple #[.int .i64 x, .int .i64 y]) ∧ Hid (Res (numF t.data.toList (most + 1)) x y) ∧ Hid (Below w.heap.size w w') := by
  have HL : Hid (LayT w) := hL
  have HX : Hid (Box (w.alloc (.cells #[.string s, .string pre, .int .i64 most] 51)) w.heap.size s pre most) := Box.new w s pre most
  have HB : Hid (Below w.heap.size w (w.alloc (.cells #[.string s, .string pre, .int .i64 most] 51))) := (Below.refl _ _).alloc (Nat.le_refl _) _
  have HE : Hid (LayE (w.alloc (.cells #[.string s, .string pre, .int .i64 most] 51))) := hE.below HB.out
  clear hL hE
  cases ha : Lib.atoiAll t.data.toList with
  | ok v =>
    have HA : Hid (Lib.atoiAll t.data.toList = .ok v) := ha
    clear ha
    go_enter Tryd.func48, Tryd.ntmps48
    go_wp2_with fail
    generalize (w.alloc (.cells #[.string s, .string pre, .int .i64 most] 51)) = W1 at *
    refine (Tryd.strconv_Atoi_ok t (by omega) v HA.out W1).mono ?_
    rintro e W2 ⟨rfl, hW2⟩
    have H2 : Hid (Below W1.heap.size W1 W2) := by
      rcases hW2 with rfl | ⟨u, rfl⟩
      · exact Below.refl _ _
      · exact Lib.bytesWorld_below _ _ _
    clear hW2
    have HX2 : Hid (Box W2 w.heap.size s pre most) := HX.out.below H2.out
    have HB2 : Hid (Below w.heap.size w W2) := HB.out.trans (H2.out.mono HB.out.size)
    have c2 := HX2.out.2.2.1
    clear HX HB H2 HE
    have HD : Hid (∀ n, n < most + 1 → t.data.toList = Lib.decDigits n → v = (n : Int)) := by
      intro n hn he
      have := HA.out
      rw [he, atoi_dec n (by omega)] at this
      injection this with this
      exact this.symm
    by_cases h1 : v < 0
    · go_wp2_with fail
      go_ret2
      refine ⟨_, _, rfl, ⟨?_, fun _ => ⟨rfl, rfl⟩⟩, HB2.out⟩
      intro n hn
      obtain ⟨e1, e2⟩ := numF_some hn
      have := HD.out n e2 e1
      omega
    · by_cases h2 : (most : Int) < v
      · go_wp2_with fail
        go_ret2
        refine ⟨_, _, rfl, ⟨?_, fun _ => ⟨rfl, rfl⟩⟩, HB2.out⟩
        intro n hn
        obtain ⟨e1, e2⟩ := numF_some hn
        have := HD.out n e2 e1
        omega
      · obtain ⟨n, rfl⟩ : ∃ n : Nat, v = (n : Int) := ⟨v.toNat, by omega⟩
        go_wp2_with fail
        refine (itoa_nat n (by omega) W2 (HL.out.below HB2.out)).mono ?_
        rintro e W3 ⟨rfl, H3⟩
        have HB3 : Hid (Below w.heap.size w W3) := HB2.out.trans (H3.out.mono HB2.out.size)
        clear HX2 HB2 H3 c2
        by_cases h3 : Lib.decDigits n = t.data.toList
        · have hq : (Lib.decDigits n == t.toList) = true := by rw [ByteArray.toList_eq, h3]; simp
          have HQ : Hid (numF t.data.toList (most + 1) = some n) := by
            show _ = _
            rw [← h3]
            exact numF_dec n _ (by omega)
          clear h3
          go_wp2_with fail
          go_ret2
          exact ⟨_, _, rfl, Res.yes HQ.out, HB3.out⟩
        · have hq : (Lib.decDigits n == t.toList) = false := by
            rw [ByteArray.toList_eq]
            cases h : Lib.decDigits n == t.data.toList with
            | false => rfl
            | true => exact absurd (eq_of_beq h) h3
          have HQ : Hid (numF t.data.toList (most + 1) = none) := by
            refine numF_none fun k hk he => ?_
            have := HD.out k hk he
            have e : n = k := by omega
            subst e
            exact h3 he.symm
          clear h3
          go_wp2_with fail
          go_ret2
          exact ⟨_, _, rfl, Res.no HQ.out, HB3.out⟩
  | «syntax» =>
    have HQ : Hid (numF t.data.toList (most + 1) = none) := by
      refine numF_none fun k hk he => ?_
      rw [he, atoi_dec k (by omega)] at ha
      cases ha
    have HA : Hid (Lib.atoiAll t.data.toList = .«syntax») := ha
    clear ha
    go_enter Tryd.func48, Tryd.ntmps48
    go_wp2_with fail
    generalize (w.alloc (.cells #[.string s, .string pre, .int .i64 most] 51)) = W1 at *
    obtain ⟨tp, p, hv⟩ := HE.out.1
    refine (Tryd.strconv_Atoi_syntax_var t (by omega) HA.out tp p W1 hv).mono ?_
    rintro e W2 ⟨N, rfl, -, -, hb⟩
    have HB2 : Hid (Below w.heap.size w W2) := HB.out.trans (hb.mono HB.out.size)
    clear hv hb HX HB HE
    go_wp2_with fail
    go_ret2
    exact ⟨_, _, rfl, Res.no HQ.out, HB2.out⟩
  | range =>
    have HQ : Hid (numF t.data.toList (most + 1) = none) := by
      refine numF_none fun k hk he => ?_
      rw [he, atoi_dec k (by omega)] at ha
      cases ha
    have HA : Hid (Lib.atoiAll t.data.toList = .range) := ha
    clear ha
    go_enter Tryd.func48, Tryd.ntmps48
    go_wp2_with fail
    generalize (w.alloc (.cells #[.string s, .string pre, .int .i64 most] 51)) = W1 at *
    obtain ⟨tp, p, hv⟩ := HE.out.2
    refine (Tryd.strconv_Atoi_range_var t (by omega) HA.out tp p W1 hv).mono ?_
    rintro e W2 ⟨N, rfl, -, -, hb⟩
    have HB2 : Hid (Below w.heap.size w W2) := HB.out.trans (hb.mono HB.out.size)
    clear hv hb HX HB HE
    generalize Lib.atoiSat t.data.toList = v
    go_wp2_with fail
    go_ret2
    exact ⟨_, _, rfl, Res.no HQ.out, HB2.out⟩

set_option maxRecDepth 100000 in
set_option maxHeartbeats 1000000 in
theorem digits_any (s pre : ByteArray) (most : Int) (ps : Own4) (t : ByteArray) (w : World) (hK : KOk s ps) (hL : LayT w) :
    Calls Tryd.prog 46 #[.agg #[.string s, .string pre, .int .i64 most], .string t] w fun e w' => ∃ (l : List UInt8) (b : Bool), e = .returned (.tuple #[.string ⟨l.toArray⟩, .bool b]) ∧ Hid (digF ps pre.data.toList t.data.toList = if b then some l else none) ∧ Hid (Below w.heap.size w w') := by
  have HL : Hid (LayT w) := hL
  have HK : Hid (KOk s ps) := hK
  have HX : Hid (Box (w.alloc (.cells #[.string s, .string pre, .int .i64 most] 51)) w.heap.size s pre most) := Box.new w s pre most
  have HB : Hid (Below w.heap.size w (w.alloc (.cells #[.string s, .string pre, .int .i64 most] 51))) := (Below.refl _ _).alloc (Nat.le_refl _) _
  clear hL hK
  go_enter Tryd.func46, Tryd.ntmps46
  go_wp2_with fail
  generalize (w.alloc (.cells #[.string s, .string pre, .int .i64 most] 51)) = W1 at *
  refine (fields_any s ps W1 HK.out (HL.out.below HB.out)).mono ?_
  rintro e W3 ⟨rfl, H3⟩
  have HX3 : Hid (Box W3 w.heap.size s pre most) := HX.out.below H3.out.1
  have HB3 : Hid (Below w.heap.size w W3) := HB.out.trans (H3.out.1.mono HB.out.size)
  have HC : Hid (∀ j p, ps[j]? = some p → W3.cell? ⟨W1.heap.size, 2 * j, none⟩ = some (.string ⟨p.1.toArray⟩) ∧ W3.cell? ⟨W1.heap.size, 2 * j + 1, none⟩ = some (.string ⟨(Lib.decDigits p.2).toArray⟩)) := H3.out.2
  have hN := HK.out.2.2.2.1
  obtain ⟨N, eN⟩ : ∃ N, ps.length = N := ⟨_, rfl⟩
  have HN : Hid (ps.length = N) := eN
  rw [eN] at hN ⊢
  clear HX HB H3 eN HK
  generalize W1.heap.size = g at *
  go_wp2_with fail
  go_loopw [7] (fun x wr => wr = W3 ∧ ∃ j : Nat, j ≤ N ∧ x = .int .i64 ((2 * j + 1 : Nat) : Int) ∧ Hid (∀ p ∈ ps.take j, (p.1 == t.data.toList) = false)) (fun x _ => 2 * N + 1 - (intOf x).toNat)
  case atStart => exact ⟨rfl, 0, Nat.zero_le _, rfl, by intro p hp; simp at hp⟩
  case round =>
    obtain ⟨rfl, j, hj, rfl, HF⟩ := hrel
    obtain ⟨i, ei⟩ : ∃ i : Nat, 2 * j + 1 = i := ⟨_, rfl⟩
    by_cases hlt : j < N
    · obtain ⟨p, hp⟩ : ∃ p, ps[j]? = some p := ⟨_, List.getElem?_eq_getElem (by rw [HN.out]; exact hlt)⟩
      obtain ⟨c1, c2⟩ := HC.out j p hp
      rw [ei] at c2 ⊢
      have hb1 : (i : Int) < ((2 * N : Nat) : Int) := by omega
      have hs1 : IntKind.i64.wrap ((i : Int) - 1) = ((2 * j : Nat) : Int) := by rw [IntKind.wrap_i64]; omega
      have hs2 : (((2 * j : Nat) : Int)) < ((2 * N : Nat) : Int) := by omega
      have HS : Hid (((p.1 == t.data.toList) = true → ps.find? (fun q => q.1 == t.data.toList) = some p) ∧ ((p.1 == t.data.toList) = false → ∀ q ∈ ps.take (j + 1), (q.1 == t.data.toList) = false)) := find_step (fun (q : List UInt8 × Nat) => q.1 == t.data.toList) ps j HF.out p hp
      obtain ⟨m, hm⟩ : ∃ m, 2 * j = m := ⟨_, rfl⟩
      rw [hm] at c1 hs1 hs2
      cases he : p.1 == t.data.toList with
      | true =>
        have hq : (p.1 == t.toList) = true := by rw [ByteArray.toList_eq]; exact he
        have HS1 := HS.out.1 he
        have HS2 : Hid (ps.find? (fun q => q.1 == t.data.toList) = some p) := HS1
        clear HS HS1 he
        go_wp2_with fail
        go_ret2
        refine ⟨_, _, rfl, ?_, HB3.out⟩
        show _ = _
        have := HS2.out
        simp [digF, this]
      | false =>
        have hq : (p.1 == t.toList) = false := by rw [ByteArray.toList_eq]; exact he
        have HS2 : Hid (∀ q ∈ ps.take (j + 1), (q.1 == t.data.toList) = false) := HS.out.2 he
        clear HS he c2
        go_wp2_with fail
        refine ⟨⟨by first | rfl | trivial, j + 1, by omega, ?_, HS2⟩, ?_⟩
        · rw [← ei]; go_num
        · simp [intOf]; omega
    · have hjN : j = N := by omega
      have hb1 : ¬ (i : Int) < ((2 * N : Nat) : Int) := by omega
      have HT : Hid (ps.find? (fun (q : List UInt8 × Nat) => q.1 == t.data.toList) = none) := find_end (fun (q : List UInt8 × Nat) => q.1 == t.data.toList) ps j HF.out (by rw [HN.out]; omega)
      have c1 := HX3.out.2.1
      rw [ei]
      clear HF HC
      go_wp2_with fail
      refine (Tryd.strings_CutPrefix t pre wr).mono ?_
      rintro e W4 ⟨rfl, rfl⟩
      go_wp2_with fail
      go_ret2
      refine ⟨_, _, rfl, ?_, HB3.out⟩
      show _ = _
      have := HT.out
      simp only [digF, this, Lib.trimPrefix, Lib.hasPrefix]
      split <;> simp_all
end Go.Proofs.YtjfpkpblifbljaaDoor
