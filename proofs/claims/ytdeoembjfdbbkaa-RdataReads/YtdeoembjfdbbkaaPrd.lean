/- Texts laid together: Hd He Nsw Hf Fa Fb Fc Fd Fe Ff. -/
import Derived.Test.YtdeoembjfdbbkaaPrc
/- The program's data: how many bytes they have. -/
namespace Go.Proofs.Ytdeoembjfdbbkaa
open Go.ChangeShapes Go.WideShapes Go.ChangeAt Go.RowKit
set_option linter.unusedVariables false
set_option linter.unusedSimpArgs false

theorem sum_snoc' (l : List Nat) (n : Nat) : (l ++ [n]).sum = l.sum + n := by simp
theorem sum_take' (l : List Nat) (k : Nat) : (l.take k).sum ≤ l.sum := by
  induction l generalizing k with
  | nil => simp
  | cons x l ih =>
    cases k with
    | zero => simp
    | succ k => simp; exact ih k
/-- What names and texts add up to. -/
def nsum (d : Dat) : Nat := (d.ns.map nsz).sum
def tz (s : ByteArray) : Nat := 1 + s.size
def tsum (d : Dat) : Nat := (d.ts.map tz).sum
/-- How many bytes data have, by fields. -/
def pszI (f : Fs) (d : Dat) : Int := ((f.wd * d.us.length : Nat) : Int) + (d.raw.length : Int) - (f.tl : Int) + (nsum d : Int) + (tsum d : Int)
set_option maxRecDepth 100000 in
set_option maxHeartbeats 4000000 in
theorem psize5_any (f : Fs) (x : DA) (d : Dat) (w : World) (h : DRd w x d) (htl : f.tl ≤ 1) (hB : f.wd * d.us.length + d.raw.length + nsum d + tsum d ≤ 1000000000000000) :
    Calls Try.prog 43 #[.agg #[.int .i64 f.nn, .int .i64 f.nf, .int .i64 f.nu, .int .i64 f.wd, .int .i64 f.nt, .int .i64 f.tg, .int .i64 f.tl, .int .i64 f.nr], .agg #[.slice x.p1.a x.p1.n x.p1.c, .slice x.p2.a x.p2.n x.p2.c, .slice x.p3.a x.p3.n x.p3.c, .slice x.p4.a x.p4.n x.p4.c]] w fun e w' => e = .returned (.int .i64 (pszI f d)) ∧ Hid (Below w.heap.size w w') := by
  have H : Hid (PtSt w ((w.alloc (.cells #[.int .i64 f.nn, .int .i64 f.nf, .int .i64 f.nu, .int .i64 f.wd, .int .i64 f.nt, .int .i64 f.tg, .int .i64 f.tl, .int .i64 f.nr] 58)).alloc (.cells #[.slice x.p1.a x.p1.n x.p1.c, .slice x.p2.a x.p2.n x.p2.c, .slice x.p3.a x.p3.n x.p3.c, .slice x.p4.a x.p4.n x.p4.c] 29)) w.heap.size f x d) := PtSt.new w f x d h
  have l1 := h.h1.len
  have l2 := h.h2.len
  have l3 := h.h3.len
  have l4 := h.h4.len
  have hc1 : x.p1.n ≤ 9223372036854775807 := Nat.le_trans h.h1.cap.1 h.h1.cap.2
  have hc3 : x.p3.n ≤ 9223372036854775807 := Nat.le_trans h.h3.cap.1 h.h3.cap.2
  clear h
  obtain ⟨nn, nf, nu, wd, nt, tg, tl, nr⟩ := f
  obtain ⟨⟨a1, n1, k1⟩, ⟨a2, n2, k2⟩, ⟨a3, n3, k3⟩, ⟨a4, n4, k4⟩⟩ := x
  simp only at H l1 l2 l3 l4 hc1 hc3 htl hB ⊢
  obtain ⟨Z, hZ⟩ : ∃ Z, pszI ⟨nn, nf, nu, wd, nt, tg, tl, nr⟩ d = Z := ⟨_, rfl⟩
  rw [hZ]
  obtain ⟨P, hP⟩ : ∃ P, wd * n2 = P := ⟨_, rfl⟩
  have HZ : Hid (Z = (P : Int) + (n4 : Int) - (tl : Int) + (nsum d : Int) + (tsum d : Int)) := by
    show Z = _
    rw [← hZ]
    unfold pszI
    rw [l4, l2, hP]
  have hB' : P + n4 + nsum d + tsum d ≤ 1000000000000000 := by rw [← hP, ← l2, ← l4]; exact hB
  have HL : Hid (d.ns.length = n1 ∧ d.ts.length = n3) := ⟨l1, l3⟩
  have hPi : (wd : Int) * (n2 : Int) = (P : Int) := by rw [← hP]; simp
  clear hZ l1 l2 l3 l4 hP hB
  have w1 : IntKind.i64.wrap ((wd : Int) * (n2 : Int)) = (P : Int) := by rw [hPi, IntKind.wrap_i64]; omega
  have w2 : IntKind.i64.wrap ((P : Int) + (n4 : Int)) = (P : Int) + (n4 : Int) := by rw [IntKind.wrap_i64]; omega
  have w2' : IntKind.i64.wrap ((P : Int) + (n4 : Int) - (tl : Int)) = (P : Int) + (n4 : Int) - (tl : Int) := by rw [IntKind.wrap_i64]; omega
  clear hPi
  go_enter Try.func43, Try.ntmps43
  go_upto_region 1 with fail
  generalize ((w.alloc (.cells #[.int .i64 nn, .int .i64 nf, .int .i64 nu, .int .i64 wd, .int .i64 nt, .int .i64 tg, .int .i64 tl, .int .i64 nr] 58)).alloc (.cells #[.slice a1 n1 k1, .slice a2 n2 k2, .slice a3 n3 k3, .slice a4 n4 k4] 29)) = W1 at *
  obtain ⟨b, hb⟩ : ∃ b, b = w.heap.size := ⟨_, rfl⟩
  rw [← hb] at H ⊢
  have Hb : Hid (b = w.heap.size) := hb
  clear hb
  have s3 := H.out.1.2.2.2.1
  have s6 := H.out.1.2.2.2.2.2.2.1
  have c0 := H.out.2.1.1
  have c1 := H.out.2.1.2.1
  have c3 := H.out.2.1.2.2.2.1
  simp only at s3 s6 c0 c1 c3
  go_wp2_with fail
  clear s3 s6 c1 c3 w1 w2 w2'
  go_loopw [5, 26] (fun v i wr => wr = W1 ∧ ∃ (k : Nat) (A : Int), k ≤ n1 ∧ i = .int .i64 (k : Int) ∧ v = .int .i64 A ∧ (-1 ≤ A ∧ A ≤ 1000000000000000) ∧ Hid (A = (P : Int) + (n4 : Int) - (tl : Int) + ((((d.ns.map nsz).take k).sum : Nat) : Int))) (fun _ i _ => n1 - (intOf i).toNat)
  case atStart => exact ⟨rfl, 0, (P : Int) + (n4 : Int) - (tl : Int), Nat.zero_le _, rfl, by first | rfl | simp, by omega, by show _ = _; simp⟩
  case round =>
    obtain ⟨hwr, k, A, hk, rfl, rfl, hA, HA⟩ := hrel
    subst hwr
    by_cases hlt : k < n1
    · have hlt' : (k : Int) < (n1 : Int) := by omega
      have hki : k < d.ns.length := by rw [HL.out.1]; exact hlt
      obtain ⟨B1, o1, ha1, hl1, z1, hz1, hr1⟩ := H.out.2.2.1.h1.at k hki
      simp only at ha1
      subst ha1
      have hsum : ((d.ns.map nsz).take (k + 1)).sum = ((d.ns.map nsz).take k).sum + nsz d.ns[k] := by
        rw [List.take_succ_eq_append_getElem (by simp; exact hki), sum_snoc']; simp
      have hle : ((d.ns.map nsz).take (k + 1)).sum ≤ nsum d := sum_take' (d.ns.map nsz) (k + 1)
      have hA2 := HA.out
      have HA2 : Hid (A + (nsz d.ns[k] : Int) = (P : Int) + (n4 : Int) - (tl : Int) + ((((d.ns.map nsz).take (k + 1)).sum : Nat) : Int)) := by show _ = _; omega
      have hb2 : A + (nsz d.ns[k] : Int) ≤ 1000000000000000 := by have := HA2.out; omega
      have KS : Hid (∀ W, W = wr → Calls Try.prog 66 #[.slice z1.a z1.n z1.c] W fun e w' => e = .returned (.int .i64 (nsz d.ns[k])) ∧ w' = W) := by
        intro W e
        subst e
        exact psize_eq z1.a z1.n z1.c d.ns[k] W hr1.rd hr1.len (by omega)
      clear hsum hle hA2 hr1 HA
      generalize nsz d.ns[k] = q at *
      generalize z1.a = za at *
      generalize z1.n = zn at *
      generalize z1.c = zc at *
      have w3 : IntKind.i64.wrap (A + (q : Int)) = A + (q : Int) := by rw [IntKind.wrap_i64]; omega
      go_wp2_with fail
      refine (KS.out _ rfl).mono ?_
      rintro e Wx ⟨rfl, rfl⟩
      go_wp2_with fail
      refine ⟨⟨by first | rfl | trivial, k + 1, A + (q : Int), by omega, by go_num, by first | rfl | go_num, by omega, HA2⟩, ?_⟩
      simp [intOf]; omega
    · have hge : ¬ (k : Int) < (n1 : Int) := by omega
      have HA1 : Hid (A = (P : Int) + (n4 : Int) - (tl : Int) + (nsum d : Int)) := by
        have := HA.out
        rwa [List.take_of_length_le (by simp; rw [HL.out.1]; omega)] at this
      clear HA
      have c2 := H.out.2.1.2.2.1
      simp only at c2
      clear c0
      go_wp2_with fail
      obtain ⟨wz, hz⟩ : ∃ z, z = wr := ⟨_, rfl⟩
      subst hz
      go_loopw [5, 38] (fun v i wr => wr = wz ∧ ∃ (j : Nat) (B : Int), j ≤ n3 ∧ i = .int .i64 (j : Int) ∧ v = .int .i64 B ∧ (-1 ≤ B ∧ B ≤ 1000000000000000) ∧ Hid (B = A + ((((d.ts.map tz).take j).sum : Nat) : Int))) (fun _ i _ => n3 - (intOf i).toNat)
      case atStart => exact ⟨rfl, 0, A, Nat.zero_le _, rfl, rfl, hA, by show _ = _; simp⟩
      case round =>
        obtain ⟨hwr, j, B, hj, rfl, rfl, hB2, HBB⟩ := hrel
        subst hwr
        by_cases hjt : j < n3
        · have hjt' : (j : Int) < (n3 : Int) := by omega
          have hji : j < d.ts.length := by rw [HL.out.2]; exact hjt
          obtain ⟨B3, o3, ha3, hl3, hy3⟩ := H.out.2.2.1.h3.rd.at j hji
          simp only at ha3
          subst ha3
          have hsum : ((d.ts.map tz).take (j + 1)).sum = ((d.ts.map tz).take j).sum + (1 + d.ts[j].size) := by
            rw [List.take_succ_eq_append_getElem (by simp; exact hji), sum_snoc']; simp [tz]
          have hle : ((d.ts.map tz).take (j + 1)).sum ≤ tsum d := sum_take' _ (j + 1)
          have hA2 := HBB.out
          have hA3 := HA1.out
          have HB3 : Hid (B + (1 + (d.ts[j].size : Int)) = A + ((((d.ts.map tz).take (j + 1)).sum : Nat) : Int)) := by show _ = _; omega
          have hb3 : B + (1 + (d.ts[j].size : Int)) ≤ 1000000000000000 := by have := HB3.out; omega
          clear hsum hle hA2 hA3 HBB
          obtain ⟨s, hs⟩ : ∃ s, s = d.ts[j] := ⟨_, rfl⟩
          rw [← hs] at HB3 hb3 hy3
          clear hs
          have w4 : IntKind.i64.wrap (1 + (s.size : Int)) = 1 + (s.size : Int) := by rw [IntKind.wrap_i64]; omega
          have w5 : IntKind.i64.wrap (B + (1 + (s.size : Int))) = B + (1 + (s.size : Int)) := by rw [IntKind.wrap_i64]; omega
          go_wp2_with fail
          refine ⟨⟨by first | rfl | trivial, j + 1, B + (1 + (s.size : Int)), by omega, by go_num, by first | rfl | go_num, by omega, HB3⟩, ?_⟩
          simp [intOf]; omega
        · have hge2 : ¬ (j : Int) < (n3 : Int) := by omega
          have HE : Hid (Z = B) := by
            have h1 := HBB.out
            rw [List.take_of_length_le (by simp; rw [HL.out.2]; omega)] at h1
            have h2 := HZ.out
            have h3 := HA1.out
            show Z = B
            have h4 : tsum d = (d.ts.map tz).sum := rfl
            omega
          clear HBB HA1
          go_wp2_with fail
          go_ret
          exact ⟨by rw [HE.out]; rfl, H.out.2.2.2⟩
end Go.Proofs.Ytdeoembjfdbbkaa
/- The program's data: what fields say is what the document's shapes say. No text of the program is used here. -/
namespace Go.Proofs.Ytdeoembjfdbbkaa
open Go.ChangeShapes Go.WideShapes Go.ChangeAt Go.RowKit
set_option linter.unusedVariables false
set_option linter.unusedSimpArgs false

theorem dec_wd (wd : Nat) (h : wd = 1 ∨ wd = 2 ∨ wd = 4) (n : Nat) : decide (n / 2 ^ (8 * wd) = 0) = decide (n ≤ most wd) := by
  apply decide_eq_decide.2
  rcases h with rfl | rfl | rfl <;> simp [most] <;> omega
theorem fitB_ge (n : Nat) (c : Int) (h : 0 ≤ c) : fitB n c = decide ((n : Int) = c) := by
  unfold fitB
  rw [if_neg (by omega), if_neg (by omega)]
theorem nil_of {α : Type} {l : List α} (h : (l.length : Int) = 0) : l = [] := List.eq_nil_of_length_eq_zero (by omega)
set_option maxHeartbeats 1000000 in
theorem fit_eq (t : Nat) (d : Dat) : (cntB (fs t) d && wthB (fs t) d) = fitsB t d := by
  obtain ⟨ns, us, ts, raw⟩ := d
  rw [Bool.eq_iff_iff]
  unfold cntB wthB fitsB
  rcases fs_cases t with ⟨ht, e⟩ | ⟨ht, e⟩ | ⟨ht, e⟩ | ⟨ht, e⟩ | ⟨ht, e⟩ | ⟨ht, e⟩ | ⟨ht, e⟩ | ⟨ht, e⟩ | ⟨ht, e⟩
  · have es' : shp t = ⟨0, 0, 0, 4, 0⟩ := by subst ht; rfl
    have q1 : t ≠ 16 := by omega
    have q2 : t ≠ 257 := by omega
    rw [e, es']
    simp only [fitB_ge _ ((0 : Nat) : Int) (by omega), fitB_ge _ (0 : Int) (by omega), fitB_ge _ ((1 : Nat) : Int) (by omega), fitB_ge _ (4 : Int) (by omega), fitB_ge _ (16 : Int) (by omega), Bool.and_eq_true, Bool.or_eq_true, decide_eq_true_eq, List.all_eq_true]
    constructor
    · rintro ⟨⟨⟨⟨h1, h2⟩, h3⟩, h4⟩, _⟩
      obtain rfl := nil_of h2
      obtain rfl := nil_of h3
      exact ⟨⟨⟨⟨⟨⟨⟨by omega, rfl⟩, .inr rfl⟩, .inl (by omega)⟩, .inr (by omega)⟩, by simp⟩, .inl q1⟩, .inl q2⟩
    · rintro ⟨⟨⟨⟨⟨⟨⟨h1, h2⟩, h3⟩, _⟩, h4⟩, _⟩, _⟩, _⟩
      obtain rfl := List.eq_nil_of_length_eq_zero h2
      obtain rfl := nil_of (l := ts) (by omega)
      exact ⟨⟨⟨⟨by omega, rfl⟩, rfl⟩, by omega⟩, ⟨by simp, by simp⟩, by simp⟩
  · have es' : shp t = ⟨0, 0, 0, 16, 0⟩ := by subst ht; rfl
    have q1 : t ≠ 16 := by omega
    have q2 : t ≠ 257 := by omega
    rw [e, es']
    simp only [fitB_ge _ ((0 : Nat) : Int) (by omega), fitB_ge _ (0 : Int) (by omega), fitB_ge _ ((1 : Nat) : Int) (by omega), fitB_ge _ (4 : Int) (by omega), fitB_ge _ (16 : Int) (by omega), Bool.and_eq_true, Bool.or_eq_true, decide_eq_true_eq, List.all_eq_true]
    constructor
    · rintro ⟨⟨⟨⟨h1, h2⟩, h3⟩, h4⟩, _⟩
      obtain rfl := nil_of h2
      obtain rfl := nil_of h3
      exact ⟨⟨⟨⟨⟨⟨⟨by omega, rfl⟩, .inr rfl⟩, .inl (by omega)⟩, .inr (by omega)⟩, by simp⟩, .inl q1⟩, .inl q2⟩
    · rintro ⟨⟨⟨⟨⟨⟨⟨h1, h2⟩, h3⟩, _⟩, h4⟩, _⟩, _⟩, _⟩
      obtain rfl := List.eq_nil_of_length_eq_zero h2
      obtain rfl := nil_of (l := ts) (by omega)
      exact ⟨⟨⟨⟨by omega, rfl⟩, rfl⟩, by omega⟩, ⟨by simp, by simp⟩, by simp⟩
  · have es' : shp t = ⟨1, 0, 0, 0, 0⟩ := by rcases ht with rfl | rfl | rfl <;> rfl
    have q1 : t ≠ 16 := by omega
    have q2 : t ≠ 257 := by omega
    rw [e, es']
    simp only [fitB_ge _ ((0 : Nat) : Int) (by omega), fitB_ge _ (0 : Int) (by omega), fitB_ge _ ((1 : Nat) : Int) (by omega), fitB_ge _ (4 : Int) (by omega), fitB_ge _ (16 : Int) (by omega), Bool.and_eq_true, Bool.or_eq_true, decide_eq_true_eq, List.all_eq_true]
    constructor
    · rintro ⟨⟨⟨⟨h1, h2⟩, h3⟩, h4⟩, _⟩
      obtain rfl := nil_of h2
      obtain rfl := nil_of h3
      exact ⟨⟨⟨⟨⟨⟨⟨by omega, rfl⟩, .inr rfl⟩, .inl (by omega)⟩, .inr (by omega)⟩, by simp⟩, .inl q1⟩, .inl q2⟩
    · rintro ⟨⟨⟨⟨⟨⟨⟨h1, h2⟩, h3⟩, _⟩, h4⟩, _⟩, _⟩, _⟩
      obtain rfl := List.eq_nil_of_length_eq_zero h2
      obtain rfl := nil_of (l := ts) (by omega)
      exact ⟨⟨⟨⟨by omega, rfl⟩, rfl⟩, by omega⟩, ⟨by simp, by simp⟩, by simp⟩
  · have es' : shp t = ⟨2, 5, 0, 0, 4⟩ := by subst ht; rfl
    have q1 : t ≠ 16 := by omega
    have q2 : t ≠ 257 := by omega
    have hd := dec_wd 4 (by simp)
    rw [e, es']
    simp only [hd, fitB_ge _ ((0 : Nat) : Int) (by omega), fitB_ge _ (0 : Int) (by omega), fitB_ge _ ((1 : Nat) : Int) (by omega), fitB_ge _ ((2 : Nat) : Int) (by omega), fitB_ge _ ((3 : Nat) : Int) (by omega), fitB_ge _ ((5 : Nat) : Int) (by omega), Bool.and_eq_true, Bool.or_eq_true, decide_eq_true_eq, List.all_eq_true]
    constructor
    · rintro ⟨⟨⟨⟨h1, h2⟩, h3⟩, h4⟩, ⟨h5, _⟩, _⟩
      obtain rfl := nil_of h3
      obtain rfl := nil_of h4
      exact ⟨⟨⟨⟨⟨⟨⟨by omega, by omega⟩, .inr rfl⟩, .inl (by omega)⟩, .inr rfl⟩, h5⟩, .inl q1⟩, .inl q2⟩
    · rintro ⟨⟨⟨⟨⟨⟨⟨h1, h2⟩, h3⟩, _⟩, h4⟩, h5⟩, _⟩, _⟩
      obtain rfl := nil_of (l := ts) (by omega)
      obtain rfl := nil_of (l := raw) (by omega)
      exact ⟨⟨⟨⟨by omega, by omega⟩, rfl⟩, rfl⟩, ⟨h5, by simp⟩, by simp⟩
  · have es' : shp t = ⟨1, 1, 0, 0, 2⟩ := by subst ht; rfl
    have q1 : t ≠ 16 := by omega
    have q2 : t ≠ 257 := by omega
    have hd := dec_wd 2 (by simp)
    rw [e, es']
    simp only [hd, fitB_ge _ ((0 : Nat) : Int) (by omega), fitB_ge _ (0 : Int) (by omega), fitB_ge _ ((1 : Nat) : Int) (by omega), fitB_ge _ ((2 : Nat) : Int) (by omega), fitB_ge _ ((3 : Nat) : Int) (by omega), fitB_ge _ ((5 : Nat) : Int) (by omega), Bool.and_eq_true, Bool.or_eq_true, decide_eq_true_eq, List.all_eq_true]
    constructor
    · rintro ⟨⟨⟨⟨h1, h2⟩, h3⟩, h4⟩, ⟨h5, _⟩, _⟩
      obtain rfl := nil_of h3
      obtain rfl := nil_of h4
      exact ⟨⟨⟨⟨⟨⟨⟨by omega, by omega⟩, .inr rfl⟩, .inl (by omega)⟩, .inr rfl⟩, h5⟩, .inl q1⟩, .inl q2⟩
    · rintro ⟨⟨⟨⟨⟨⟨⟨h1, h2⟩, h3⟩, _⟩, h4⟩, h5⟩, _⟩, _⟩
      obtain rfl := nil_of (l := ts) (by omega)
      obtain rfl := nil_of (l := raw) (by omega)
      exact ⟨⟨⟨⟨by omega, by omega⟩, rfl⟩, rfl⟩, ⟨h5, by simp⟩, by simp⟩
  · have es' : shp t = ⟨1, 3, 0, 0, 2⟩ := by subst ht; rfl
    have q1 : t ≠ 16 := by omega
    have q2 : t ≠ 257 := by omega
    have hd := dec_wd 2 (by simp)
    rw [e, es']
    simp only [hd, fitB_ge _ ((0 : Nat) : Int) (by omega), fitB_ge _ (0 : Int) (by omega), fitB_ge _ ((1 : Nat) : Int) (by omega), fitB_ge _ ((2 : Nat) : Int) (by omega), fitB_ge _ ((3 : Nat) : Int) (by omega), fitB_ge _ ((5 : Nat) : Int) (by omega), Bool.and_eq_true, Bool.or_eq_true, decide_eq_true_eq, List.all_eq_true]
    constructor
    · rintro ⟨⟨⟨⟨h1, h2⟩, h3⟩, h4⟩, ⟨h5, _⟩, _⟩
      obtain rfl := nil_of h3
      obtain rfl := nil_of h4
      exact ⟨⟨⟨⟨⟨⟨⟨by omega, by omega⟩, .inr rfl⟩, .inl (by omega)⟩, .inr rfl⟩, h5⟩, .inl q1⟩, .inl q2⟩
    · rintro ⟨⟨⟨⟨⟨⟨⟨h1, h2⟩, h3⟩, _⟩, h4⟩, h5⟩, _⟩, _⟩
      obtain rfl := nil_of (l := ts) (by omega)
      obtain rfl := nil_of (l := raw) (by omega)
      exact ⟨⟨⟨⟨by omega, by omega⟩, rfl⟩, rfl⟩, ⟨h5, by simp⟩, by simp⟩
  · have es' : shp t = ⟨0, 0, -1, 0, 0⟩ := by subst ht; rfl
    have q2 : t ≠ 257 := by omega
    rw [e, es']
    have f1 : fitB ts.length (-1) = decide (0 < ts.length) := by simp [fitB]
    simp only [f1, fitB_ge _ ((0 : Nat) : Int) (by omega), fitB_ge _ (0 : Int) (by omega), Bool.and_eq_true, Bool.or_eq_true, decide_eq_true_eq, List.all_eq_true]
    constructor
    · rintro ⟨⟨⟨⟨h1, h2⟩, h3⟩, h4⟩, _, h5⟩
      obtain rfl := nil_of h2
      obtain rfl := nil_of h4
      exact ⟨⟨⟨⟨⟨⟨⟨by omega, rfl⟩, .inl (by omega)⟩, .inr (by omega)⟩, .inr rfl⟩, by simp⟩, .inr (by simpa using h5)⟩, .inl q2⟩
    · rintro ⟨⟨⟨⟨⟨⟨⟨h1, h2⟩, h3⟩, h6⟩, h4⟩, h5⟩, h7⟩, _⟩
      obtain rfl := List.eq_nil_of_length_eq_zero h2
      obtain rfl := nil_of (l := raw) (by omega)
      exact ⟨⟨⟨⟨by omega, rfl⟩, by omega⟩, rfl⟩, ⟨by simp, by simp⟩, by have := h7.resolve_left (fun hh => hh ht); simpa using this⟩
  · have es' : shp t = ⟨0, 1, 2, 0, 1⟩ := by subst ht; rfl
    have q1 : t ≠ 16 := by omega
    have hd := dec_wd 1 (by simp)
    rw [e, es']
    simp only [hd, fitB_ge _ ((0 : Nat) : Int) (by omega), fitB_ge _ (0 : Int) (by omega), fitB_ge _ ((1 : Nat) : Int) (by omega), fitB_ge _ (2 : Int) (by omega), Bool.and_eq_true, Bool.or_eq_true, decide_eq_true_eq, List.all_eq_true]
    constructor
    · rintro ⟨⟨⟨⟨h1, h2⟩, h3⟩, h4⟩, ⟨h5, h6⟩, h7⟩
      rcases ts with _ | ⟨a, _ | ⟨b, _ | ⟨c, ts⟩⟩⟩
      · simp at h3
      · simp at h3
      · obtain rfl := nil_of h4
        exact ⟨⟨⟨⟨⟨⟨⟨by omega, by omega⟩, .inr rfl⟩, .inl (by omega)⟩, .inr rfl⟩, h5⟩, .inl q1⟩, .inr (h6 a (by simp))⟩
      · simp at h3; omega
    · rintro ⟨⟨⟨⟨⟨⟨⟨h1, h2⟩, h3⟩, _⟩, h4⟩, h5⟩, _⟩, h8⟩
      rcases ts with _ | ⟨a, _ | ⟨b, _ | ⟨c, ts⟩⟩⟩
      · simp at h3
      · simp at h3
      · obtain rfl := nil_of (l := raw) (by omega)
        have hta : tagB a = true := by have := h8.resolve_left (fun hh => hh ht); simpa using this
        have ha : a.size ≤ 255 := by simp [tagB] at hta; omega
        refine ⟨⟨⟨⟨by omega, by omega⟩, by simp⟩, rfl⟩, ⟨h5, by simp [hta]⟩, by simp [ha]⟩
      · simp at h3; omega
  · obtain ⟨h1, h2, h3, h4, h5, h6, h7, h8, h9, h10⟩ := ht
    have es' : shp t = ⟨0, 0, 0, -1, 0⟩ := by unfold shp; simp [h1, h2, h3, h4, h5, h6, h7, h8, h9, h10]
    rw [e, es']
    have f1 : fitB raw.length (-2) = true := by simp [fitB]
    simp only [f1, fitB_ge _ ((0 : Nat) : Int) (by omega), fitB_ge _ (0 : Int) (by omega), Bool.and_eq_true, Bool.or_eq_true, decide_eq_true_eq, List.all_eq_true]
    constructor
    · rintro ⟨⟨⟨⟨i1, i2⟩, i3⟩, i4⟩, _⟩
      obtain rfl := nil_of i2
      obtain rfl := nil_of i3
      exact ⟨⟨⟨⟨⟨⟨⟨by omega, rfl⟩, .inr rfl⟩, .inl (by omega)⟩, .inl (by omega)⟩, by simp⟩, .inl h9⟩, .inl h10⟩
    · rintro ⟨⟨⟨⟨⟨⟨⟨i1, i2⟩, i3⟩, _⟩, i4⟩, _⟩, _⟩, _⟩
      obtain rfl := List.eq_nil_of_length_eq_zero i2
      obtain rfl := nil_of (l := ts) (by omega)
      exact ⟨⟨⟨⟨by omega, rfl⟩, rfl⟩, trivial⟩, ⟨by simp, by simp⟩, by simp⟩
theorem tsum_nby (l : List ByteArray) : (l.map tz).sum = (nby l).length := by
  induction l with
  | nil => simp [nby]
  | cons a l ih =>
    have e : nby (a :: l) = (a.size : Int) :: (nums a ++ nby l) := by simp [nby]
    rw [e]
    simp [ih, nums_len, tz]
    omega
set_option maxHeartbeats 1000000 in
theorem psz_eq (t : Nat) (d : Dat) (h : fitsB t d = true) : pszI (fs t) d = (sizesF t d : Nat) := by
  obtain ⟨ns, us, ts, raw⟩ := d
  unfold fitsB at h
  unfold pszI sizesF nsum tsum
  simp only [Bool.and_eq_true, Bool.or_eq_true, decide_eq_true_eq] at h ⊢
  obtain ⟨⟨⟨⟨⟨⟨⟨h1, h2⟩, h3⟩, h6⟩, h4⟩, h5⟩, h7⟩, h8⟩ := h
  have key : (shp t).wd = (fs t).wd ∧ ((((fs t).tl = 0 ∧ t ≠ 257) ∧ (t = 16 ∨ ((shp t).nt = 0))) ∨ ((fs t).tl = 1 ∧ t = 257 ∧ (shp t).nt = 2)) := by
    rcases fs_cases t with ⟨ht, e⟩ | ⟨ht, e⟩ | ⟨ht, e⟩ | ⟨ht, e⟩ | ⟨ht, e⟩ | ⟨ht, e⟩ | ⟨ht, e⟩ | ⟨ht, e⟩ | ⟨ht, e⟩
    · subst ht; exact ⟨rfl, .inl ⟨⟨rfl, by omega⟩, .inr rfl⟩⟩
    · subst ht; exact ⟨rfl, .inl ⟨⟨rfl, by omega⟩, .inr rfl⟩⟩
    · rcases ht with rfl | rfl | rfl <;> exact ⟨rfl, .inl ⟨⟨rfl, by omega⟩, .inr rfl⟩⟩
    · subst ht; exact ⟨rfl, .inl ⟨⟨rfl, by omega⟩, .inr rfl⟩⟩
    · subst ht; exact ⟨rfl, .inl ⟨⟨rfl, by omega⟩, .inr rfl⟩⟩
    · subst ht; exact ⟨rfl, .inl ⟨⟨rfl, by omega⟩, .inr rfl⟩⟩
    · subst ht; exact ⟨rfl, .inl ⟨⟨rfl, by omega⟩, .inl rfl⟩⟩
    · subst ht; exact ⟨rfl, .inr ⟨rfl, rfl, rfl⟩⟩
    · obtain ⟨i1, i2, i3, i4, i5, i6, i7, i8, i9, i10⟩ := ht
      have es' : shp t = ⟨0, 0, 0, -1, 0⟩ := by unfold shp; simp [i1, i2, i3, i4, i5, i6, i7, i8, i9, i10]
      rw [e, es']
      exact ⟨rfl, .inl ⟨⟨rfl, i10⟩, .inr rfl⟩⟩
  obtain ⟨kw, kt⟩ := key
  rw [kw, tsum_nby, Nat.mul_comm us.length]
  rcases kt with ⟨⟨k1, k2⟩, k3⟩ | ⟨k1, k2, k3⟩
  · rw [k1]
    rcases k3 with k3 | k3
    · have : tsz t ts = (nby ts).length := by unfold tsz; rw [if_pos k3]
      rw [this]; omega
    · have hz : ts = [] := nil_of (by omega)
      subst hz
      have : tsz t [] = 0 := by unfold tsz; split <;> simp [nby]
      rw [this]; simp [nby]; omega
  · rw [k1]
    rcases ts with _ | ⟨a, _ | ⟨b, _ | ⟨c, ts⟩⟩⟩
    · simp at h3; omega
    · simp at h3; omega
    · have : tsz t [a, b] = a.size + 1 + b.size := by unfold tsz; rw [if_neg (by omega)]; simp [nums_len]
      rw [this]
      have : (nby [a, b]).length = a.size + 1 + (b.size + 1) := by simp [nby, nums_len]; omega
      rw [this]; omega
    · simp at h3; omega
end Go.Proofs.Ytdeoembjfdbbkaa
/- Picked out of earlier texts. -/
namespace Go.Proofs.Ytdeoembjfdbbkaa
open Go.ChangeShapes Go.WideShapes Go.ChangeAt Go.RowKit
set_option linter.unusedVariables false
set_option linter.unusedSimpArgs false


set_option maxRecDepth 100000 in
set_option maxHeartbeats 1000000 in
theorem pcheck_wide (a : Option Addr) (len cap : Nat) (ss : List ByteArray) (w : World) (hr : RdT w a ss) (hl : ss.length = len) (hm : labsOk ss → nsz ss ≤ 1000000000000000) (hlen : len ≤ 9223372036854775807) (hz : ∀ s ∈ ss, s.size ≤ 9223372036854775807) :
    Calls Try.prog 42 #[.slice a len cap] w fun e w' => e = .returned (.int .i64 (nck ss)) ∧ w' = w := by
  have HR : Hid (RdT w a ss ∧ ∀ s ∈ ss, s.size ≤ 9223372036854775807) := ⟨hr, hz⟩
  have HL : Hid (ss.length = len) := hl
  have HS : Hid (labsOk ss → ∀ W, RdT W a ss → Calls Try.prog 66 #[.slice a len cap] W fun e w' => e = .returned (.int .i64 (nsz ss)) ∧ w' = W) := fun ho W hW => psize_eq a len cap ss W hW hl (hm ho)
  obtain ⟨T, hT⟩ : ∃ T, nsz ss = T := ⟨_, rfl⟩
  have HT : Hid (nsz ss = T) := hT
  rw [hT] at HS
  clear hr hl hT hz hm
  go_enter Try.func42, Try.ntmps42
  go_wp2_with fail
  go_loopw [8] (fun x wr => ∃ k : Nat, k ≤ len ∧ x = .int .i64 k ∧ wr = w ∧ Hid (∀ i (h : i < ss.length), i < k → chk ss[i].size = 0)) (fun x _ => len - (intOf x).toNat)
  case atStart => exact ⟨0, Nat.zero_le _, rfl, rfl, fun i _ h => absurd h (by omega)⟩
  case round =>
    obtain ⟨k, hk, rfl, rfl, HK⟩ := hrel
    by_cases hlt : k < len
    · have hlt' : (k : Int) < (len : Int) := by omega
      have hks : k < ss.length := by rw [HL.out]; exact hlt
      obtain ⟨b, o, rfl, hb, hc⟩ := HR.out.1.at k hks
      have HC : Hid (∀ W, Calls Try.prog 65 #[.string ss[k]] W fun e w' => e = .returned (.int .i64 (chk ss[k].size)) ∧ w' = W) := fun W => chk_any ss[k] W (HR.out.2 _ (List.getElem_mem hks))
      rcases chk_cases ss[k].size with hk0 | hk4
      · have HN : Hid (∀ i (h : i < ss.length), i < k + 1 → chk ss[i].size = 0) := by
          intro i h hi
          by_cases e : i = k
          · subst e; exact hk0
          · exact HK.out i h (by omega)
        rw [hk0] at HC
        clear hk0 HK
        generalize ss[k] = s at *
        go_wp2_with fail
        refine (HC.out _).mono ?_
        rintro e w1 ⟨rfl, rfl⟩
        go_wp2
        exact ⟨⟨k + 1, by omega, by go_num, trivial, HN⟩, by simp [intOf]; omega⟩
      · have HE : Hid (nck ss = 4) := by
          show nck ss = 4
          unfold nck
          rw [if_neg (fun h => by have := h _ (List.getElem_mem hks); rw [hk4] at this; cases this)]
        rw [hk4] at HC
        clear hk4 HK
        generalize ss[k] = s at *
        go_wp2_with fail
        refine (HC.out _).mono ?_
        rintro e w1 ⟨rfl, rfl⟩
        go_wp2
        go_ret
        exact ⟨by rw [HE.out]; rfl, rfl⟩
    · have hge : (len : Int) ≤ (k : Int) := by omega
      have HO : Hid (labsOk ss) := by
        intro s hs
        obtain ⟨i, hi, rfl⟩ := List.getElem_of_mem hs
        exact HK.out i hi (by have := HL.out; omega)
      by_cases hb : 255 < T
      · have HE : Hid (nck ss = 5) := by show nck ss = 5; unfold nck; rw [if_pos HO.out, HT.out, if_pos hb]
        have hb' : (255 : Int) < (T : Int) := by omega
        clear HK
        go_wp2_with fail
        refine (HS.out HO.out _ HR.out.1).mono ?_
        rintro e w1 ⟨rfl, rfl⟩
        go_wp2
        go_ret
        exact ⟨by rw [HE.out]; rfl, rfl⟩
      · have HE : Hid (nck ss = 0) := by show nck ss = 0; unfold nck; rw [if_pos HO.out, HT.out, if_neg hb]
        have hb' : ¬ (255 : Int) < (T : Int) := by omega
        clear HK
        go_wp2_with fail
        refine (HS.out HO.out _ HR.out.1).mono ?_
        rintro e w1 ⟨rfl, rfl⟩
        go_wp2
        go_ret
        exact ⟨by rw [HE.out]; rfl, rfl⟩
end Go.Proofs.Ytdeoembjfdbbkaa
/- The program's data: whether they are of a type. -/
namespace Go.Proofs.Ytdeoembjfdbbkaa
open Go.ChangeShapes Go.WideShapes Go.ChangeAt Go.RowKit
set_option linter.unusedVariables false
set_option linter.unusedSimpArgs false

theorem nsErr_drop' (l : List (List ByteArray)) (k : Nat) (h : ∀ n ∈ l.take k, nck n = 0) : nsErr l = nsErr (l.drop k) := by
  induction l generalizing k with
  | nil => simp
  | cons x l ih =>
    cases k with
    | zero => simp
    | succ k =>
      have h0 : nck x = 0 := h x (by simp)
      simp only [nsErr, List.drop_succ_cons]
      rw [if_pos h0]
      exact ih k (fun n hn => h n (by simp [hn]))
/-- Data within what a machine can add up. -/
structure Bd (d : Dat) : Prop where
  n : d.ns.length ≤ 1000
  nl : ∀ x ∈ d.ns, x.length ≤ 1000000
  u : d.us.length ≤ 1000
  t : tsum d ≤ 1000000000000
  r : d.raw.length ≤ 1000000000000
theorem sum_le (l : List Nat) (m : Nat) (h : ∀ x ∈ l, x ≤ m) : l.sum ≤ l.length * m := by
  induction l with
  | nil => simp
  | cons a l ih =>
    have h1 := h a (by simp)
    have h2 := ih (fun x hx => h x (by simp [hx]))
    simp only [List.sum_cons, List.length_cons, Nat.succ_mul]
    omega
theorem Small.bd {d : Dat} (h : Small d) : Bd d := by
  have h1 := h.n
  have h2 := h.u
  have h3 := h.r
  refine ⟨by omega, fun x hx => by have := h.nl x hx; omega, by omega, ?_, by omega⟩
  have h4 := sum_le (d.ts.map tz) 301 (by
    intro x hx
    obtain ⟨s, hs, rfl⟩ := List.mem_map.1 hx
    have := h.tl s hs
    simp only [tz]; omega)
  have h5 := h.t
  rw [List.length_map] at h4
  have h6 : d.ts.length * 301 ≤ 300 * 301 := Nat.mul_le_mul_right _ h5
  unfold tsum
  omega
theorem nsz_labs (ss : List ByteArray) (h : labsOk ss) : nsz ss ≤ 64 * ss.length + 1 := by
  have h1 : (nby ss).length ≤ 64 * ss.length := by
    induction ss with
    | nil => simp [nby]
    | cons a l ih =>
      have e : nby (a :: l) = (a.size : Int) :: (nums a ++ nby l) := by simp [nby]
      have h0 := h a (by simp)
      have h2 := ih (fun x hx => h x (by simp [hx]))
      have h3 : a.size ≤ 63 := by unfold chk at h0; split at h0 <;> simp_all <;> omega
      rw [e]
      simp [nums_len]
      omega
  have := nby_len ss
  omega
theorem nsErr_zero {l : List (List ByteArray)} (h : nsErr l = 0) : ∀ n ∈ l, nck n = 0 := by
  induction l with
  | nil => simp
  | cons a l ih =>
    simp only [nsErr] at h
    by_cases ha : nck a = 0
    · rw [if_pos ha] at h
      intro n hn
      rcases List.mem_cons.1 hn with rfl | hn
      · exact ha
      · exact ih h n hn
    · rw [if_neg ha] at h; exact absurd h ha
theorem fs_wd (t : Nat) : (fs t).wd = 0 ∨ (fs t).wd = 1 ∨ (fs t).wd = 2 ∨ (fs t).wd = 4 := by
  rcases fs_cases t with ⟨_, e⟩ | ⟨_, e⟩ | ⟨_, e⟩ | ⟨_, e⟩ | ⟨_, e⟩ | ⟨_, e⟩ | ⟨_, e⟩ | ⟨_, e⟩ | ⟨_, e⟩ <;> rw [e] <;> simp
theorem fs_tl (t : Nat) : (fs t).tl ≤ 1 := by
  rcases fs_cases t with ⟨_, e⟩ | ⟨_, e⟩ | ⟨_, e⟩ | ⟨_, e⟩ | ⟨_, e⟩ | ⟨_, e⟩ | ⟨_, e⟩ | ⟨_, e⟩ | ⟨_, e⟩ <;> rw [e] <;> simp
theorem fs_tags (t : Nat) (d : Dat) (h : cntB (fs t) d = true) : (fs t).tg ≤ d.ts.length ∧ (fs t).tl ≤ d.ts.length := by
  unfold cntB at h
  simp only [Bool.and_eq_true] at h
  obtain ⟨⟨⟨_, _⟩, h⟩, _⟩ := h
  rcases fs_cases t with ⟨_, e⟩ | ⟨_, e⟩ | ⟨_, e⟩ | ⟨_, e⟩ | ⟨_, e⟩ | ⟨_, e⟩ | ⟨_, e⟩ | ⟨_, e⟩ | ⟨_, e⟩ <;> rw [e] at h ⊢ <;> simp
  simp only at h
  rw [fitB_ge _ _ (by omega)] at h
  simp at h
  omega
/-- Data and fields, each in a block of its own, the one at b, the other at g. -/
def PkSt (w W : World) (b g : Nat) (f : Fs) (x : DA) (d : Dat) : Prop := DBox W b x ∧ FBox W g f ∧ DRd W x d ∧ Below w.heap.size w W
theorem PkSt.go {w W W' : World} {b g : Nat} {f : Fs} {x : DA} {d : Dat} (h : PkSt w W b g f x d) (hb : Below W.heap.size W W') : PkSt w W' b g f x d :=
  ⟨h.1.below hb, h.2.1.below hb, h.2.2.1.below hb, h.2.2.2.trans (hb.mono h.2.2.2.size)⟩
theorem PkSt.new {w W : World} {b : Nat} (f : Fs) {x : DA} {d : Dat} (h1 : DBox W b x) (h2 : DRd W x d) (h3 : Below w.heap.size w W) : PkSt w (W.alloc (.cells #[.int .i64 f.nn, .int .i64 f.nf, .int .i64 f.nu, .int .i64 f.wd, .int .i64 f.nt, .int .i64 f.tg, .int .i64 f.tl, .int .i64 f.nr] 58)) b W.heap.size f x d := by
  have hb : Below W.heap.size W (W.alloc (.cells #[.int .i64 f.nn, .int .i64 f.nf, .int .i64 f.nu, .int .i64 f.wd, .int .i64 f.nt, .int .i64 f.tg, .int .i64 f.tl, .int .i64 f.nr] 58)) := (Below.refl _ _).alloc (Nat.le_refl _) _
  exact ⟨h1.below hb, FBox.new W f, h2.below hb, h3.trans (hb.mono h3.size)⟩
set_option maxRecDepth 100000 in
set_option maxHeartbeats 4000000 in
theorem check_any (t : Nat) (x : DA) (d : Dat) (w : World) (h : DRd w x d) (hB : Bd d) :
    Calls Try.prog 13 #[.int .u16 t, .agg #[.slice x.p1.a x.p1.n x.p1.c, .slice x.p2.a x.p2.n x.p2.c, .slice x.p3.a x.p3.n x.p3.c, .slice x.p4.a x.p4.n x.p4.c]] w fun e w' => e = .returned (.int .i64 (checkF t d)) ∧ Hid (Below w.heap.size w w') := by
  have hb0 : Below w.heap.size w (w.alloc (.cells #[.slice x.p1.a x.p1.n x.p1.c, .slice x.p2.a x.p2.n x.p2.c, .slice x.p3.a x.p3.n x.p3.c, .slice x.p4.a x.p4.n x.p4.c] 29)) := (Below.refl _ _).alloc (Nat.le_refl _) _
  have H : Hid (DBox (w.alloc (.cells #[.slice x.p1.a x.p1.n x.p1.c, .slice x.p2.a x.p2.n x.p2.c, .slice x.p3.a x.p3.n x.p3.c, .slice x.p4.a x.p4.n x.p4.c] 29)) w.heap.size x ∧ DRd (w.alloc (.cells #[.slice x.p1.a x.p1.n x.p1.c, .slice x.p2.a x.p2.n x.p2.c, .slice x.p3.a x.p3.n x.p3.c, .slice x.p4.a x.p4.n x.p4.c] 29)) x d ∧ Below w.heap.size w (w.alloc (.cells #[.slice x.p1.a x.p1.n x.p1.c, .slice x.p2.a x.p2.n x.p2.c, .slice x.p3.a x.p3.n x.p3.c, .slice x.p4.a x.p4.n x.p4.c] 29))) := ⟨DBox.new w x, h.below hb0, hb0⟩
  have KC : Hid (∀ W, DRd W x d → Calls Try.prog 40 #[.agg #[.int .i64 (fs t).nn, .int .i64 (fs t).nf, .int .i64 (fs t).nu, .int .i64 (fs t).wd, .int .i64 (fs t).nt, .int .i64 (fs t).tg, .int .i64 (fs t).tl, .int .i64 (fs t).nr], .agg #[.slice x.p1.a x.p1.n x.p1.c, .slice x.p2.a x.p2.n x.p2.c, .slice x.p3.a x.p3.n x.p3.c, .slice x.p4.a x.p4.n x.p4.c]] W fun e w' => e = .returned (.bool (cntB (fs t) d)) ∧ Hid (Below W.heap.size W w')) := fun W hd => counted_any (fs t) x d W hd
  have KW : Hid (cntB (fs t) d = true → ∀ W, DRd W x d → Calls Try.prog 41 #[.agg #[.int .i64 (fs t).nn, .int .i64 (fs t).nf, .int .i64 (fs t).nu, .int .i64 (fs t).wd, .int .i64 (fs t).nt, .int .i64 (fs t).tg, .int .i64 (fs t).tl, .int .i64 (fs t).nr], .agg #[.slice x.p1.a x.p1.n x.p1.c, .slice x.p2.a x.p2.n x.p2.c, .slice x.p3.a x.p3.n x.p3.c, .slice x.p4.a x.p4.n x.p4.c]] W fun e w' => e = .returned (.bool (wthB (fs t) d)) ∧ Hid (Below W.heap.size W w')) := fun hc W hd => within_any (fs t) x d W hd (fs_wd t) (fs_tags t d hc).1 (fs_tags t d hc).2
  have KZ : Hid (cntB (fs t) d = true → wthB (fs t) d = true → nsErr d.ns = 0 → ∀ W, DRd W x d → Calls Try.prog 43 #[.agg #[.int .i64 (fs t).nn, .int .i64 (fs t).nf, .int .i64 (fs t).nu, .int .i64 (fs t).wd, .int .i64 (fs t).nt, .int .i64 (fs t).tg, .int .i64 (fs t).tl, .int .i64 (fs t).nr], .agg #[.slice x.p1.a x.p1.n x.p1.c, .slice x.p2.a x.p2.n x.p2.c, .slice x.p3.a x.p3.n x.p3.c, .slice x.p4.a x.p4.n x.p4.c]] W fun e w' => e = .returned (.int .i64 (sizesF t d : Nat)) ∧ Hid (Below W.heap.size W w')) := by
    intro h1 h2 h3 W hd
    have h4 : fitsB t d = true := by rw [← fit_eq, h1, h2]; rfl
    rw [← psz_eq t d h4]
    refine psize5_any (fs t) x d W hd (fs_tl t) ?_
    have h5 : nsum d ≤ 1000 * 255 := by
      have := sum_le (d.ns.map nsz) 255 (by
        intro y hy
        obtain ⟨n, hn, rfl⟩ := List.mem_map.1 hy
        exact (nck_small (nsErr_zero h3 n hn)).1)
      rw [List.length_map] at this
      have h6 : d.ns.length * 255 ≤ 1000 * 255 := Nat.mul_le_mul_right _ hB.n
      unfold nsum
      omega
    have h7 : (fs t).wd * d.us.length ≤ 4 * 1000 := Nat.mul_le_mul (by have := fs_wd t; omega) hB.u
    have h8 := hB.t
    have h9 := hB.r
    omega
  have KO : Hid (∀ W, Calls Try.prog 35 #[.int .u16 t] W fun e w' => e = .returned (.agg #[.int .i64 (fs t).nn, .int .i64 (fs t).nf, .int .i64 (fs t).nu, .int .i64 (fs t).wd, .int .i64 (fs t).nt, .int .i64 (fs t).tg, .int .i64 (fs t).tl, .int .i64 (fs t).nr]) ∧ Hid (Below W.heap.size W w')) := fun W => fieldsof_any t W
  have hc1 : x.p1.n ≤ 9223372036854775807 := Nat.le_trans h.h1.cap.1 h.h1.cap.2
  have HL : Hid (d.ns.length = x.p1.n) := h.h1.len
  have HNB : Hid (∀ n ∈ d.ns, labsOk n → nsz n ≤ 1000000000000000) := by
    intro n hn hl
    have h1 := nsz_labs n hl
    have h2 := hB.nl n hn
    omega
  have HQ : Hid (checkF t d = if mayT t then (if (cntB (fs t) d && wthB (fs t) d) then (if nsErr d.ns = 0 then (if 65535 < sizesF t d then 3 else 0) else nsErr d.ns) else 7) else 6) := by
    show _ = _
    rw [fit_eq]
    rfl
  obtain ⟨C, hC⟩ : ∃ C, checkF t d = C := ⟨_, rfl⟩
  rw [hC] at HQ ⊢
  have KH : Hid (∀ W, Calls Try.prog 39 #[.int .u16 t] W fun e w' => e = .returned (.bool (mayT t)) ∧ w' = W) := fun W => hasdata_any t W
  clear hC h hb0 hB
  generalize hmay : mayT t = mt at *
  generalize hcnt : cntB (fs t) d = ct at *
  generalize hwth : wthB (fs t) d = wt at *
  generalize (fs t) = f at *
  generalize hsz : sizesF t d = sz at *
  clear hmay hcnt hwth hsz
  obtain ⟨nn, nf, nu, wd, nt, tg, tl, nr⟩ := f
  obtain ⟨⟨a1, n1, k1⟩, ⟨a2, n2, k2⟩, ⟨a3, n3, k3⟩, ⟨a4, n4, k4⟩⟩ := x
  simp only at H KC KW KZ KO hc1 HL ⊢
  go_enter Try.func13, Try.ntmps13
  go_wp2_with fail
  generalize (w.alloc (.cells #[.slice a1 n1 k1, .slice a2 n2 k2, .slice a3 n3 k3, .slice a4 n4 k4] 29)) = W1 at *
  obtain ⟨b, hb⟩ : ∃ b, b = w.heap.size := ⟨_, rfl⟩
  rw [← hb] at H ⊢
  have Hb : Hid (b = w.heap.size) := hb
  clear hb
  refine (KH.out W1).mono ?_
  rintro e W1 ⟨rfl, rfl⟩
  clear KH
  cases mt with
  | false =>
    have HE : Hid (C = 6) := by show C = 6; have := HQ.out; simpa using this
    clear HQ KC KW KZ KO
    go_wp2_with fail
    go_ret
    exact ⟨by rw [HE.out]; rfl, by have := H.out.2.2; rw [Hb.out] at this; exact this⟩
  | true =>
  go_wp2_with fail
  refine (KO.out W1).mono ?_
  rintro e W2 ⟨rfl, H2⟩
  have H3 : Hid (PkSt w (W2.alloc (.cells #[.int .i64 nn, .int .i64 nf, .int .i64 nu, .int .i64 wd, .int .i64 nt, .int .i64 tg, .int .i64 tl, .int .i64 nr] 58)) b W2.heap.size ⟨nn, nf, nu, wd, nt, tg, tl, nr⟩ ⟨⟨a1, n1, k1⟩, ⟨a2, n2, k2⟩, ⟨a3, n3, k3⟩, ⟨a4, n4, k4⟩⟩ d) := PkSt.new ⟨nn, nf, nu, wd, nt, tg, tl, nr⟩ (H.out.1.below H2.out) (H.out.2.1.below H2.out) (by have := H.out.2.2; rw [Hb.out] at this; exact this.trans (H2.out.mono this.size))
  clear H H2 KO
  go_upto_region 4 with fail
  generalize (W2.alloc (.cells #[.int .i64 nn, .int .i64 nf, .int .i64 nu, .int .i64 wd, .int .i64 nt, .int .i64 tg, .int .i64 tl, .int .i64 nr] 58)) = W3 at *
  generalize W2.heap.size = g at *
  obtain ⟨s0, s1, s2, s3, s4, s5, s6, s7, _⟩ := H3.out.2.1
  have c0 := H3.out.1.1
  have c1 := H3.out.1.2.1
  have c2 := H3.out.1.2.2.1
  have c3 := H3.out.1.2.2.2.1
  simp only at s0 s1 s2 s3 s4 s5 s6 s7 c0 c1 c2 c3
  go_wp2_with fail
  refine (KC.out W3 H3.out.2.2.1).mono ?_
  rintro e W4 ⟨rfl, H4⟩
  have H5 : Hid (PkSt w W4 b g ⟨nn, nf, nu, wd, nt, tg, tl, nr⟩ ⟨⟨a1, n1, k1⟩, ⟨a2, n2, k2⟩, ⟨a3, n3, k3⟩, ⟨a4, n4, k4⟩⟩ d) := H3.out.go H4.out
  clear H3 H4 KC s0 s1 s2 s3 s4 s5 s6 s7 c0 c1 c2 c3
  cases ct with
  | false =>
    have HE : Hid (C = 7) := by show C = 7; have := HQ.out; simpa using this
    clear HQ KZ KW
    go_wp2_with fail
    go_ret
    exact ⟨by rw [HE.out]; rfl, H5.out.2.2.2⟩
  | true =>
  obtain ⟨s0, s1, s2, s3, s4, s5, s6, s7, _⟩ := H5.out.2.1
  have c0 := H5.out.1.1
  have c1 := H5.out.1.2.1
  have c2 := H5.out.1.2.2.1
  have c3 := H5.out.1.2.2.2.1
  simp only at s0 s1 s2 s3 s4 s5 s6 s7 c0 c1 c2 c3
  go_wp2_with fail
  refine (KW.out (by trivial) W4 H5.out.2.2.1).mono ?_
  rintro e W5 ⟨rfl, H4⟩
  have H6 : Hid (PkSt w W5 b g ⟨nn, nf, nu, wd, nt, tg, tl, nr⟩ ⟨⟨a1, n1, k1⟩, ⟨a2, n2, k2⟩, ⟨a3, n3, k3⟩, ⟨a4, n4, k4⟩⟩ d) := H5.out.go H4.out
  clear H5 H4 KW s0 s1 s2 s3 s4 s5 s6 s7 c0 c1 c2 c3
  cases wt with
  | false =>
    have HE : Hid (C = 7) := by show C = 7; have := HQ.out; simpa using this
    clear HQ KZ
    go_wp2_with fail
    go_ret
    exact ⟨by rw [HE.out]; rfl, H6.out.2.2.2⟩
  | true =>
  have HQ2 : Hid (C = if nsErr d.ns = 0 then (if 65535 < sz then 3 else 0) else nsErr d.ns) := by show C = _; have := HQ.out; simpa using this
  clear HQ
  have c0 := H6.out.1.1
  simp only at c0
  go_wp2_with fail
  go_loopw [27] (fun i wr => wr = W5 ∧ ∃ k : Nat, k ≤ n1 ∧ i = .int .i64 (k : Int) ∧ Hid (∀ n ∈ d.ns.take k, nck n = 0)) (fun i _ => n1 - (intOf i).toNat)
  case atStart => exact ⟨rfl, 0, Nat.zero_le _, rfl, by intro n hn; simp at hn⟩
  case round =>
    obtain ⟨hwr, k, hk, rfl, HA⟩ := hrel
    subst hwr
    by_cases hlt : k < n1
    · have hlt' : (k : Int) < (n1 : Int) := by omega
      have hki : k < d.ns.length := by rw [HL.out]; exact hlt
      obtain ⟨B1, o1, ha1, hl1, z1, hz1, hr1⟩ := H6.out.2.2.1.h1.at k hki
      simp only at ha1
      subst ha1
      have HD : Hid (nsErr d.ns = if nck d.ns[k] = 0 then nsErr (d.ns.drop (k + 1)) else nck d.ns[k]) := by
        show _ = _
        rw [nsErr_drop' d.ns k HA.out, List.drop_eq_getElem_cons hki]
        rfl
      have HA2 : Hid (nck d.ns[k] = 0 → ∀ n ∈ d.ns.take (k + 1), nck n = 0) := by
        intro h0 n hn
        rw [List.take_succ_eq_append_getElem hki] at hn
        simp only [List.mem_append, List.mem_singleton] at hn
        rcases hn with hn | rfl
        · exact HA.out n hn
        · exact h0
      have KC : Hid (∀ W, W = wr → Calls Try.prog 42 #[.slice z1.a z1.n z1.c] W fun e w' => e = .returned (.int .i64 (nck d.ns[k])) ∧ w' = W) := by
        intro W e
        subst e
        exact pcheck_wide z1.a z1.n z1.c d.ns[k] W hr1.rd hr1.len (HNB.out _ (List.getElem_mem _)) (Nat.le_trans hr1.cap.1 hr1.cap.2) hr1.z63
      clear hr1 HA
      generalize nck d.ns[k] = q at *
      generalize z1.a = za at *
      generalize z1.n = zn at *
      generalize z1.c = zc at *
      by_cases hq : q = 0
      · have hq' : (q != 0) = false := by simp [hq]
        have HA3 := HA2.out hq
        have HA4 : Hid (∀ n ∈ d.ns.take (k + 1), nck n = 0) := HA3
        clear HA3 HA2 HD hq
        go_wp2_with fail
        refine (KC.out _ rfl).mono ?_
        rintro e Wx ⟨rfl, rfl⟩
        go_wp2_with fail
        refine ⟨⟨by first | rfl | trivial, k + 1, by omega, by go_num, HA4⟩, ?_⟩
        simp [intOf]; omega
      · have hq' : (q != 0) = true := by simp [hq]
        have HE : Hid (C = q) := by
          have h1 := HQ2.out
          have h2 := HD.out
          rw [if_neg hq] at h2
          rw [h2, if_neg hq] at h1
          exact h1
        clear HA2 HD hq HQ2
        go_wp2_with fail
        refine (KC.out _ rfl).mono ?_
        rintro e Wx ⟨rfl, rfl⟩
        go_wp2_with fail
        go_ret
        exact ⟨by rw [HE.out]; rfl, H6.out.2.2.2⟩
    · have hge : ¬ (k : Int) < (n1 : Int) := by omega
      have HN : Hid (nsErr d.ns = 0) := by
        have h1 := HA.out
        rw [List.take_of_length_le (by rw [HL.out]; show n1 ≤ k; omega)] at h1
        have := nsErr_drop' d.ns d.ns.length (by rw [List.take_of_length_le (Nat.le_refl _)]; exact h1)
        rw [List.drop_length] at this
        exact this
      have HE : Hid (C = if 65535 < sz then 3 else 0) := by
        have h1 := HQ2.out
        rw [if_pos HN.out] at h1
        exact h1
      have KZ2 : Hid (∀ W, DRd W ⟨⟨a1, n1, k1⟩, ⟨a2, n2, k2⟩, ⟨a3, n3, k3⟩, ⟨a4, n4, k4⟩⟩ d → Calls Try.prog 43 #[.agg #[.int .i64 nn, .int .i64 nf, .int .i64 nu, .int .i64 wd, .int .i64 nt, .int .i64 tg, .int .i64 tl, .int .i64 nr], .agg #[.slice a1 n1 k1, .slice a2 n2 k2, .slice a3 n3 k3, .slice a4 n4 k4]] W fun e w' => e = .returned (.int .i64 (sz : Nat)) ∧ Hid (Below W.heap.size W w')) := KZ.out (by trivial) (by trivial) HN.out
      clear HA HN KZ HQ2
      obtain ⟨s0, s1, s2, s3, s4, s5, s6, s7, _⟩ := H6.out.2.1
      have c1 := H6.out.1.2.1
      have c2 := H6.out.1.2.2.1
      have c3 := H6.out.1.2.2.2.1
      simp only at s0 s1 s2 s3 s4 s5 s6 s7 c1 c2 c3
      go_wp2_with fail
      refine (KZ2.out _ H6.out.2.2.1).mono ?_
      rintro e W7 ⟨rfl, H7⟩
      have HB : Hid (Below w.heap.size w W7) := H6.out.2.2.2.trans (H7.out.mono H6.out.2.2.2.size)
      clear H7 H6 s0 s1 s2 s3 s4 s5 s6 s7 c0 c1 c2 c3 KZ2
      by_cases hs : 65535 < sz
      · have hs' : (65535 : Int) < (sz : Int) := by omega
        have HE2 : Hid (C = 3) := by have := HE.out; rw [if_pos hs] at this; exact this
        clear HE
        go_wp2_with fail
        go_ret
        exact ⟨by rw [HE2.out]; rfl, HB.out⟩
      · have hs' : ¬ (65535 : Int) < (sz : Int) := by omega
        have HE2 : Hid (C = 0) := by have := HE.out; rw [if_neg hs] at this; exact this
        clear HE
        go_wp2_with fail
        go_ret
        exact ⟨by rw [HE2.out]; rfl, HB.out⟩
end Go.Proofs.Ytdeoembjfdbbkaa
/- The document's own answer: which fields a type has; the greatest number; a tag. -/
namespace Go.Proofs.Ytdeoembjfdbbkaa
open Go.ChangeShapes Go.WideShapes Go.ChangeAt Go.RowKit
set_option linter.unusedVariables false
set_option linter.unusedSimpArgs false


/-- A shape's value. -/
abbrev Shp.val (s : Shp) : Value := .agg #[.int .i64 s.nn, .int .i64 s.nu, .int .i64 s.nt, .int .i64 s.nr, .int .i64 s.wd]
set_option maxRecDepth 100000 in
set_option maxHeartbeats 2000000 in
theorem of_any (t : Nat) (w : World) : Calls Try.prog 48 #[.int .u16 t] w fun e w' => e = .returned (.tuple #[.agg #[.int .i64 (shp t).nn, .int .i64 (shp t).nu, .int .i64 (shp t).nt, .int .i64 (shp t).nr, .int .i64 (shp t).wd], .bool (mayT t)]) ∧ Hid (Below w.heap.size w w') := by
  rcases shp_cases t with ⟨ht, e⟩ | ⟨ht, e⟩ | ⟨ht, e⟩ | ⟨ht, e⟩ | ⟨ht, e⟩ | ⟨ht, e⟩ | ⟨ht, e⟩ | ⟨ht, e⟩ | ⟨ht, e⟩
  · subst ht; rw [e]; clear e
    go_enter Try.func48, Try.ntmps48
    go_wp2_with fail
    exact bodyPost_ret (v := .tuple #[.agg #[.int .i64 0, .int .i64 0, .int .i64 0, .int .i64 4, .int .i64 0], .bool true]) (by simp [results, Try.results48, go_sem]) rfl ⟨rfl, (Below.refl _ _).alloc (Nat.le_refl _) _⟩
  · subst ht; rw [e]; clear e
    go_enter Try.func48, Try.ntmps48
    go_wp2_with fail
    exact bodyPost_ret (v := .tuple #[.agg #[.int .i64 0, .int .i64 0, .int .i64 0, .int .i64 16, .int .i64 0], .bool true]) (by simp [results, Try.results48, go_sem]) rfl ⟨rfl, (Below.refl _ _).alloc (Nat.le_refl _) _⟩
  · rw [e]; clear e
    rcases ht with rfl | rfl | rfl
    all_goals
      go_enter Try.func48, Try.ntmps48
      go_wp2_with fail
      exact bodyPost_ret (v := .tuple #[.agg #[.int .i64 1, .int .i64 0, .int .i64 0, .int .i64 0, .int .i64 0], .bool true]) (by simp [results, Try.results48, go_sem]) rfl ⟨rfl, (Below.refl _ _).alloc (Nat.le_refl _) _⟩
  · subst ht; rw [e]; clear e
    go_enter Try.func48, Try.ntmps48
    go_wp2_with fail
    exact bodyPost_ret (v := .tuple #[.agg #[.int .i64 2, .int .i64 5, .int .i64 0, .int .i64 0, .int .i64 4], .bool true]) (by simp [results, Try.results48, go_sem]) rfl ⟨rfl, (Below.refl _ _).alloc (Nat.le_refl _) _⟩
  · subst ht; rw [e]; clear e
    go_enter Try.func48, Try.ntmps48
    go_wp2_with fail
    exact bodyPost_ret (v := .tuple #[.agg #[.int .i64 1, .int .i64 1, .int .i64 0, .int .i64 0, .int .i64 2], .bool true]) (by simp [results, Try.results48, go_sem]) rfl ⟨rfl, (Below.refl _ _).alloc (Nat.le_refl _) _⟩
  · subst ht; rw [e]; clear e
    go_enter Try.func48, Try.ntmps48
    go_wp2_with fail
    exact bodyPost_ret (v := .tuple #[.agg #[.int .i64 1, .int .i64 3, .int .i64 0, .int .i64 0, .int .i64 2], .bool true]) (by simp [results, Try.results48, go_sem]) rfl ⟨rfl, (Below.refl _ _).alloc (Nat.le_refl _) _⟩
  · subst ht; rw [e]; clear e
    go_enter Try.func48, Try.ntmps48
    go_wp2_with fail
    exact bodyPost_ret (v := .tuple #[.agg #[.int .i64 0, .int .i64 0, .int .i64 (-1), .int .i64 0, .int .i64 0], .bool true]) (by simp [results, Try.results48, go_sem]) rfl ⟨rfl, (Below.refl _ _).alloc (Nat.le_refl _) _⟩
  · subst ht; rw [e]; clear e
    go_enter Try.func48, Try.ntmps48
    go_wp2_with fail
    exact bodyPost_ret (v := .tuple #[.agg #[.int .i64 0, .int .i64 1, .int .i64 2, .int .i64 0, .int .i64 1], .bool true]) (by simp [results, Try.results48, go_sem]) rfl ⟨rfl, (Below.refl _ _).alloc (Nat.le_refl _) _⟩
  · rw [e]; clear e
    obtain ⟨h1, h2, h3, h4, h5, h6, h7, h8, h9, h10⟩ := ht
    have q1 : ((t : Int) == 1) = false := by simp; omega
    have q2 : ((t : Int) == 28) = false := by simp; omega
    have q3 : ((t : Int) == 2) = false := by simp; omega
    have q4 : ((t : Int) == 5) = false := by simp; omega
    have q5 : ((t : Int) == 12) = false := by simp; omega
    have q6 : ((t : Int) == 6) = false := by simp; omega
    have q7 : ((t : Int) == 15) = false := by simp; omega
    have q8 : ((t : Int) == 33) = false := by simp; omega
    have q9 : ((t : Int) == 16) = false := by simp; omega
    have q10 : ((t : Int) == 257) = false := by simp; omega
    clear h1 h2 h3 h4 h5 h6 h7 h8 h9 h10
    by_cases hz : t = 0
    · subst hz
      go_enter Try.func48, Try.ntmps48
      go_wp2_with fail
      exact bodyPost_ret (v := .tuple #[.agg #[.int .i64 0, .int .i64 0, .int .i64 0, .int .i64 (-1), .int .i64 0], .bool false]) (by simp [results, Try.results48, go_sem]) rfl ⟨rfl, (Below.refl _ _).alloc (Nat.le_refl _) _⟩
    · have qz : ((t : Int) != 0) = true := by simp; omega
      by_cases ha : (t : Int) < 128
      · have hm : mayT t = true := by simp [mayT]; omega
        rw [hm]
        clear hm
        go_enter Try.func48, Try.ntmps48
        go_wp2_with fail
        exact bodyPost_ret (v := .tuple #[.agg #[.int .i64 0, .int .i64 0, .int .i64 0, .int .i64 (-1), .int .i64 0], .bool true]) (by simp [results, Try.results48, go_sem]) rfl ⟨rfl, (Below.refl _ _).alloc (Nat.le_refl _) _⟩
      · by_cases hb : (255 : Int) < (t : Int)
        · have hm : mayT t = true := by simp [mayT]; omega
          rw [hm]
          clear hm
          go_enter Try.func48, Try.ntmps48
          go_wp2_with fail
          exact bodyPost_ret (v := .tuple #[.agg #[.int .i64 0, .int .i64 0, .int .i64 0, .int .i64 (-1), .int .i64 0], .bool true]) (by simp [results, Try.results48, go_sem]) rfl ⟨rfl, (Below.refl _ _).alloc (Nat.le_refl _) _⟩
        · have hm : mayT t = false := by simp [mayT]; omega
          rw [hm]
          clear hm
          go_enter Try.func48, Try.ntmps48
          go_wp2_with fail
          exact bodyPost_ret (v := .tuple #[.agg #[.int .i64 0, .int .i64 0, .int .i64 0, .int .i64 (-1), .int .i64 0], .bool false]) (by simp [results, Try.results48, go_sem]) rfl ⟨rfl, (Below.refl _ _).alloc (Nat.le_refl _) _⟩
set_option maxRecDepth 100000 in
set_option maxHeartbeats 1000000 in
theorem most_any (wd : Nat) (w : World) : Calls Try.prog 82 #[.int .i64 wd] w fun e w' => e = .returned (.int .u32 (most wd)) ∧ w' = w := by
  by_cases h1 : wd = 1
  · subst h1
    go_enter Try.func82, Try.ntmps82
    go_wp2_with fail
    go_ret
    exact ⟨rfl, rfl⟩
  · by_cases h2 : wd = 2
    · subst h2
      go_enter Try.func82, Try.ntmps82
      go_wp2_with fail
      go_ret
      exact ⟨rfl, rfl⟩
    · have q1 : ((wd : Int) == 1) = false := by simp; omega
      have q2 : ((wd : Int) == 2) = false := by simp; omega
      have hm : most wd = 4294967295 := by unfold most; rw [if_neg h1, if_neg h2]
      rw [hm]
      clear hm
      go_enter Try.func82, Try.ntmps82
      go_wp2_with fail
      go_ret
      exact ⟨rfl, rfl⟩
set_option maxRecDepth 100000 in
set_option maxHeartbeats 2000000 in
theorem tag_any (s : ByteArray) (hs : s.size ≤ 9223372036854775807) (w : World) : Calls Try.prog 83 #[.string s] w fun e w' => e = .returned (.bool (tagB s)) ∧ w' = w := by
  by_cases h1 : s.size < 1
  · have HE : Hid (tagB s = false) := by show _ = _; simp [tagB]; omega
    have h1' : (s.size : Int) < 1 := by omega
    go_enter Try.func83, Try.ntmps83
    go_wp2_with fail
    go_ret
    exact ⟨by rw [HE.out]; rfl, rfl⟩
  · by_cases h2 : 15 < s.size
    · have HE : Hid (tagB s = false) := by show _ = _; simp [tagB]; omega
      have h1' : ¬ (s.size : Int) < 1 := by omega
      have h2' : (15 : Int) < (s.size : Int) := by omega
      go_enter Try.func83, Try.ntmps83
      go_wp2_with fail
      go_ret
      exact ⟨by rw [HE.out]; rfl, rfl⟩
    · have h1' : ¬ (s.size : Int) < 1 := by omega
      have h2' : ¬ (15 : Int) < (s.size : Int) := by omega
      have HT : Hid (tagB s = (nums s).all alnum) := by show _ = _; simp [tagB]; intro _; omega
      go_enter Try.func83, Try.ntmps83
      go_wp2_with fail
      go_loopw [3] (fun v wr => wr = w ∧ ∃ k : Nat, k ≤ s.size ∧ v = .int .i64 (k : Int) ∧ Hid (∀ z ∈ (nums s).take k, alnum z = true)) (fun v _ => s.size - (intOf v).toNat)
      case atStart => exact ⟨rfl, 0, Nat.zero_le _, rfl, by intro y hy; simp at hy⟩
      case round =>
        obtain ⟨hwr, k, hk, rfl, HF⟩ := hrel
        subst hwr
        by_cases hlt : k < s.size
        · have hlt' : (k : Int) < (s.size : Int) := by omega
          have hbd := nums_bd s k
          have hki : k < (nums s).length := by rw [nums_len]; exact hlt
          have hat := nums_at s k hlt
          rw [hat] at hbd
          have HA : Hid (∃ h : k < (nums s).length, (nums s)[k] = (s[k].toNat : Int)) := by
            refine ⟨hki, ?_⟩
            have : (nums s).getD k 0 = (nums s)[k] := by simp [List.getD_eq_getElem?_getD, hki]
            rw [← this, hat]
          clear hat hki
          obtain ⟨c, hc⟩ : ∃ c : Int, (s[k].toNat : Int) = c := ⟨_, rfl⟩
          rw [hc] at hbd HA
          cases hal : alnum c with
          | true =>
            have HF2 : Hid (∀ z ∈ (nums s).take (k + 1), alnum z = true) := by
              intro z hz
              obtain ⟨hin, hav⟩ := HA.out
              rw [List.take_succ_eq_append_getElem hin] at hz
              simp only [List.mem_append, List.mem_singleton] at hz
              rcases hz with hz | hz
              · exact HF.out z hz
              · subst hz; rw [hav]; exact hal
            have hcs : (97 ≤ c ∧ c ≤ 122) ∨ (c < 97 ∧ 65 ≤ c ∧ c ≤ 90) ∨ (c < 97 ∧ c < 65 ∧ 48 ≤ c ∧ c ≤ 57) := by
              simp [alnum] at hal; omega
            clear HF hal
            rcases hcs with ⟨d1, d2⟩ | ⟨d0, d1, d2⟩ | ⟨d0, d01, d1, d2⟩
            all_goals
              go_wp2_with fail
              exact ⟨⟨by first | rfl | trivial, k + 1, by omega, by go_num, HF2⟩, by simp [intOf]; omega⟩
          | false =>
            have HE : Hid (tagB s = false) := by
              show _ = _
              rw [HT.out, ← Bool.not_eq_true]
              intro hall
              obtain ⟨hin, hav⟩ := HA.out
              have := List.all_eq_true.1 hall (nums s)[k] (List.getElem_mem hin)
              rw [hav, hal] at this
              cases this
            have hcs : (c < 97 ∧ c < 65 ∧ c < 48) ∨ (c < 97 ∧ c < 65 ∧ 57 < c) ∨ (c < 97 ∧ 90 < c) ∨ 122 < c := by
              simp [alnum] at hal; omega
            clear HF hal HT
            rcases hcs with ⟨d0, d1, d2⟩ | ⟨d0, d1, d2⟩ | ⟨d0, d1⟩ | d0
            all_goals
              go_wp2_with fail
              go_ret
              exact ⟨by rw [HE.out]; rfl, rfl⟩
        · have hge : ¬ (k : Int) < (s.size : Int) := by omega
          have HE : Hid (tagB s = true) := by
            have := HF.out
            rw [List.take_of_length_le (by rw [nums_len]; omega)] at this
            show _ = _
            rw [HT.out]
            exact List.all_eq_true.2 this
          clear HF HT
          go_wp2_with fail
          go_ret
          exact ⟨by rw [HE.out]; rfl, rfl⟩
end Go.Proofs.Ytdeoembjfdbbkaa
/- The document's own answer: whether fields are as a shape says. -/
namespace Go.Proofs.Ytdeoembjfdbbkaa
open Go.ChangeShapes Go.WideShapes Go.ChangeAt Go.RowKit
set_option linter.unusedVariables false
set_option linter.unusedSimpArgs false


def fitsG (s : Shp) (t : Nat) (d : Dat) : Bool :=
  decide (d.ns.length = s.nn) && decide (d.us.length = s.nu) && (decide (s.nt < 0) || decide ((d.ts.length : Int) = s.nt)) && (decide (0 ≤ s.nt) || decide (d.ts.length ≠ 0)) &&
  (decide (s.nr < 0) || decide ((d.raw.length : Int) = s.nr)) && d.us.all (fun n => decide (n ≤ most s.wd)) && (decide (t ≠ 16) || d.ts.all (fun s => decide (s.size ≤ 255))) && (decide (t ≠ 257) || tagB (d.ts.getD 0 ⟨#[]⟩))
theorem fitsB_eq (t : Nat) (d : Dat) : fitsB t d = fitsG (shp t) t d := rfl
/-- A shape in a block of its own. -/
def SBox (w : World) (b : Nat) (s : Shp) : Prop :=
  w.cell? ⟨b, 0, none⟩ = some (.int .i64 s.nn) ∧ w.cell? ⟨b, 1, none⟩ = some (.int .i64 s.nu) ∧ w.cell? ⟨b, 2, none⟩ = some (.int .i64 s.nt) ∧ w.cell? ⟨b, 3, none⟩ = some (.int .i64 s.nr) ∧ w.cell? ⟨b, 4, none⟩ = some (.int .i64 s.wd) ∧ b < w.heap.size
theorem SBox.new (w : World) (s : Shp) : SBox (w.alloc (.cells #[.int .i64 s.nn, .int .i64 s.nu, .int .i64 s.nt, .int .i64 s.nr, .int .i64 s.wd] 67)) w.heap.size s := by
  refine ⟨?_, ?_, ?_, ?_, ?_, by simp⟩ <;> (unfold World.cell?; rw [heap_alloc_new]; rfl)
theorem SBox.below {w w' : World} {b : Nat} {s : Shp} (h : SBox w b s) (hb : Below w.heap.size w w') : SBox w' b s :=
  ⟨(hb.cell (p := ⟨b, 0, none⟩) h.2.2.2.2.2).trans h.1, (hb.cell (p := ⟨b, 1, none⟩) h.2.2.2.2.2).trans h.2.1, (hb.cell (p := ⟨b, 2, none⟩) h.2.2.2.2.2).trans h.2.2.1, (hb.cell (p := ⟨b, 3, none⟩) h.2.2.2.2.2).trans h.2.2.2.1, (hb.cell (p := ⟨b, 4, none⟩) h.2.2.2.2.2).trans h.2.2.2.2.1, Nat.lt_of_lt_of_le h.2.2.2.2.2 hb.size⟩
/-- A shape and data, each in a block of its own. -/
def FtSt (w W : World) (b : Nat) (s : Shp) (x : DA) (d : Dat) : Prop := SBox W b s ∧ DBox W (b + 1) x ∧ DRd W x d ∧ Below w.heap.size w W
theorem FtSt.go {w W W' : World} {b : Nat} {s : Shp} {x : DA} {d : Dat} (h : FtSt w W b s x d) (hb : Below W.heap.size W W') : FtSt w W' b s x d :=
  ⟨h.1.below hb, h.2.1.below hb, h.2.2.1.below hb, h.2.2.2.trans (hb.mono h.2.2.2.size)⟩
theorem FtSt.new (w : World) (s : Shp) (x : DA) (d : Dat) (h : DRd w x d) : FtSt w ((w.alloc (.cells #[.int .i64 s.nn, .int .i64 s.nu, .int .i64 s.nt, .int .i64 s.nr, .int .i64 s.wd] 67)).alloc (.cells #[.slice x.p1.a x.p1.n x.p1.c, .slice x.p2.a x.p2.n x.p2.c, .slice x.p3.a x.p3.n x.p3.c, .slice x.p4.a x.p4.n x.p4.c] 29)) w.heap.size s x d := by
  have hb1 : Below w.heap.size w (w.alloc (.cells #[.int .i64 s.nn, .int .i64 s.nu, .int .i64 s.nt, .int .i64 s.nr, .int .i64 s.wd] 67)) := (Below.refl _ _).alloc (Nat.le_refl _) _
  have HX := SBox.new w s
  have hx1 := h.below hb1
  obtain ⟨W0, hW0⟩ : ∃ W, W = w.alloc (.cells #[.int .i64 s.nn, .int .i64 s.nu, .int .i64 s.nt, .int .i64 s.nr, .int .i64 s.wd] 67) := ⟨_, rfl⟩
  have hs0 : W0.heap.size = w.heap.size + 1 := by rw [hW0]; simp
  rw [← hW0] at hb1 HX hx1 ⊢
  have hb2 : Below W0.heap.size W0 (W0.alloc (.cells #[.slice x.p1.a x.p1.n x.p1.c, .slice x.p2.a x.p2.n x.p2.c, .slice x.p3.a x.p3.n x.p3.c, .slice x.p4.a x.p4.n x.p4.c] 29)) := (Below.refl _ _).alloc (Nat.le_refl _) _
  have HY := DBox.new W0 x
  rw [hs0] at HY
  exact ⟨HX.below hb2, HY, hx1.below hb2, hb1.trans (hb2.mono hb1.size)⟩
set_option maxRecDepth 100000 in
set_option maxHeartbeats 4000000 in
theorem fits_any (s : Shp) (t : Nat) (ht : t = 257 → s.nt = 2) (x : DA) (d : Dat) (w : World) (h : DRd w x d) :
    Calls Try.prog 57 #[.int .u16 t, .agg #[.int .i64 s.nn, .int .i64 s.nu, .int .i64 s.nt, .int .i64 s.nr, .int .i64 s.wd], .agg #[.slice x.p1.a x.p1.n x.p1.c, .slice x.p2.a x.p2.n x.p2.c, .slice x.p3.a x.p3.n x.p3.c, .slice x.p4.a x.p4.n x.p4.c]] w fun e w' => e = .returned (.bool (fitsG s t d)) ∧ Hid (Below w.heap.size w w') := by
  have H : Hid (FtSt w ((w.alloc (.cells #[.int .i64 s.nn, .int .i64 s.nu, .int .i64 s.nt, .int .i64 s.nr, .int .i64 s.wd] 67)).alloc (.cells #[.slice x.p1.a x.p1.n x.p1.c, .slice x.p2.a x.p2.n x.p2.c, .slice x.p3.a x.p3.n x.p3.c, .slice x.p4.a x.p4.n x.p4.c] 29)) w.heap.size s x d) := FtSt.new w s x d h
  have l1 := h.h1.len
  have l2 := h.h2.len
  have l3 := h.h3.len
  have l4 := h.h4.len
  have HC : Hid (x.p2.n ≤ 9223372036854775807 ∧ x.p3.n ≤ 9223372036854775807) := ⟨Nat.le_trans h.h2.cap.1 h.h2.cap.2, Nat.le_trans h.h3.cap.1 h.h3.cap.2⟩
  clear h
  obtain ⟨nn, nu, nt, nr, wd⟩ := s
  obtain ⟨⟨a1, n1, k1⟩, ⟨a2, n2, k2⟩, ⟨a3, n3, k3⟩, ⟨a4, n4, k4⟩⟩ := x
  simp only at H l1 l2 l3 l4 ht HC ⊢
  have HG : Hid (fitsG ⟨nn, nu, nt, nr, wd⟩ t d = (decide (n1 = nn) && decide (n2 = nu) && (decide (nt < 0) || decide ((n3 : Int) = nt)) && (decide (0 ≤ nt) || decide (n3 ≠ 0)) && (decide (nr < 0) || decide ((n4 : Int) = nr)) && d.us.all (fun n => decide (n ≤ most wd)) && (decide (t ≠ 16) || d.ts.all (fun s => decide (s.size ≤ 255))) && (decide (t ≠ 257) || tagB (d.ts.getD 0 ⟨#[]⟩)))) := by
    show _ = _
    unfold fitsG
    rw [l1, l2, l3, l4]
  have HL : Hid (d.us.length = n2 ∧ d.ts.length = n3) := ⟨l2, l3⟩
  have HT : Hid (t = 257 → nt = 2) := ht
  clear l1 l2 l3 l4 ht
  obtain ⟨R, hR⟩ : ∃ R, fitsG ⟨nn, nu, nt, nr, wd⟩ t d = R := ⟨_, rfl⟩
  rw [hR]
  rw [hR] at HG
  clear hR
  go_enter Try.func57, Try.ntmps57
  go_upto_region 1 with fail
  generalize ((w.alloc (.cells #[.int .i64 nn, .int .i64 nu, .int .i64 nt, .int .i64 nr, .int .i64 wd] 67)).alloc (.cells #[.slice a1 n1 k1, .slice a2 n2 k2, .slice a3 n3 k3, .slice a4 n4 k4] 29)) = W1 at *
  obtain ⟨b, hb⟩ : ∃ b, b = w.heap.size := ⟨_, rfl⟩
  rw [← hb] at H ⊢
  have Hb : Hid (b = w.heap.size) := hb
  clear hb
  have s0 := H.out.1.1
  have s1 := H.out.1.2.1
  have s2 := H.out.1.2.2.1
  have s3 := H.out.1.2.2.2.1
  have s4 := H.out.1.2.2.2.2.1
  have c0 := H.out.2.1.1
  have c1 := H.out.2.1.2.1
  have c2 := H.out.2.1.2.2.1
  have c3 := H.out.2.1.2.2.2.1
  simp only at s0 s1 s2 s3 s4 c0 c1 c2 c3
  by_cases e1 : n1 = nn
  case neg =>
    have HE : Hid (R = false) := by
      have := HG.out
      rw [decide_eq_false e1] at this
      show R = false
      simpa using this
    have q : ((n1 : Int) != (nn : Int)) = true := by simp; omega
    clear HG
    go_wp2_with fail
    go_ret
    exact ⟨by rw [HE.out]; rfl, H.out.2.2.2⟩
  subst e1
  by_cases e2 : n2 = nu
  case neg =>
    have HE : Hid (R = false) := by
      have := HG.out
      rw [decide_eq_false e2] at this
      show R = false
      simpa using this
    have q : ((n2 : Int) != (nu : Int)) = true := by simp; omega
    clear HG
    go_wp2_with fail
    go_ret
    exact ⟨by rw [HE.out]; rfl, H.out.2.2.2⟩
  subst e2
  by_cases e3 : nt < 0 ∨ (n3 : Int) = nt
  case neg =>
    have HE : Hid (R = false) := by
      have := HG.out
      rw [decide_eq_false (show ¬ nt < 0 by omega), decide_eq_false (show ¬ (n3 : Int) = nt by omega)] at this
      show R = false
      simpa using this
    have q0 : 0 ≤ nt := by omega
    have q : ((n3 : Int) != nt) = true := by simp; omega
    clear HG
    go_wp2_with fail
    go_ret
    exact ⟨by rw [HE.out]; rfl, H.out.2.2.2⟩
  by_cases e4 : nt < 0 ∧ n3 = 0
  case pos =>
    obtain ⟨e4a, e4b⟩ := e4
    subst e4b
    have HE : Hid (R = false) := by
      have := HG.out
      rw [decide_eq_false (show ¬ 0 ≤ nt by omega)] at this
      show R = false
      simpa using this
    have q0 : ¬ 0 ≤ nt := by omega
    clear HG e3
    go_wp2_with fail
    go_ret
    exact ⟨by rw [HE.out]; rfl, H.out.2.2.2⟩
  by_cases e5 : nr < 0 ∨ (n4 : Int) = nr
  case neg =>
    have HE : Hid (R = false) := by
      have := HG.out
      rw [decide_eq_false (show ¬ nr < 0 by omega), decide_eq_false (show ¬ (n4 : Int) = nr by omega)] at this
      show R = false
      simpa using this
    have p0 : 0 ≤ nr := by omega
    have p : ((n4 : Int) != nr) = true := by simp; omega
    have hor : (nt < 0 ∧ ((n3 : Int) == 0) = false ∧ ¬ 0 ≤ nt) ∨ (0 ≤ nt ∧ ¬ nt < 0 ∧ ((n3 : Int) != nt) = false) := by
      by_cases hn : nt < 0
      · exact .inl ⟨hn, by simp; omega, by omega⟩
      · exact .inr ⟨by omega, hn, by simp; omega⟩
    clear HG e3 e4 e5
    rcases hor with ⟨o1, o2, o3⟩ | ⟨o1, o2, o3⟩
    all_goals
      go_wp2_with fail
      go_ret
      exact ⟨by rw [HE.out]; rfl, H.out.2.2.2⟩
  have hor : (nt < 0 ∧ ((n3 : Int) == 0) = false ∧ ¬ 0 ≤ nt) ∨ (0 ≤ nt ∧ ¬ nt < 0 ∧ ((n3 : Int) != nt) = false) := by
    by_cases hn : nt < 0
    · exact .inl ⟨hn, by simp; omega, by omega⟩
    · exact .inr ⟨by omega, hn, by simp; omega⟩
  have hor2 : (nr < 0 ∧ ¬ 0 ≤ nr) ∨ (0 ≤ nr ∧ ((n4 : Int) != nr) = false) := by
    by_cases hn : nr < 0
    · exact .inl ⟨hn, by omega⟩
    · exact .inr ⟨by omega, by simp; omega⟩
  have HG2 : Hid (R = (d.us.all (fun n => decide (n ≤ most wd)) && (decide (t ≠ 16) || d.ts.all (fun s => decide (s.size ≤ 255))) && (decide (t ≠ 257) || tagB (d.ts.getD 0 ⟨#[]⟩)))) := by
    have := HG.out
    show R = _
    rw [this]
    have z1 : (decide (nt < 0) || decide ((n3 : Int) = nt)) = true := by simpa using e3
    have z2 : (decide (0 ≤ nt) || decide (n3 ≠ 0)) = true := by
      simp
      omega
    have z3 : (decide (nr < 0) || decide ((n4 : Int) = nr)) = true := by simpa using e5
    rw [z1, z2, z3]
    simp
  have H3 : Hid (t = 257 → 0 < n3) := by
    intro h257
    have := HT.out h257
    omega
  clear HG e3 e4 e5 HT
  go_cut [59] from 9 to 59 (fun s59 wx => wx = W1 ∧ s59 = .bool false)
  case first =>
    rcases hor with ⟨o1, o2, o3⟩ | ⟨o1, o2, o3⟩ <;> rcases hor2 with ⟨o4, o5⟩ | ⟨o4, o5⟩
    all_goals
      go_wp2_with fail
      go_meet
      exact ⟨rfl, rfl⟩
  case rest =>
    obtain ⟨hwc, rfl⟩ := hcut
    subst hwc
    clear hor hor2 s0 s1 s2 s3 s4 c0 c1 c2 c3
    have hc2 := HC.out.1
    have hc3 := HC.out.2
    go_wp2_with fail
    go_loopw [7] (fun v wr => ∃ k : Nat, k ≤ n2 ∧ v = .int .i64 (k : Int) ∧ Hid (FtSt w wr b ⟨n1, n2, nt, nr, wd⟩ ⟨⟨a1, n1, k1⟩, ⟨a2, n2, k2⟩, ⟨a3, n3, k3⟩, ⟨a4, n4, k4⟩⟩ d) ∧ Hid (∀ y ∈ d.us.take k, y ≤ most wd)) (fun v _ => n2 - (intOf v).toNat)
    case atStart => exact ⟨0, Nat.zero_le _, rfl, H, by intro y hy; simp at hy⟩
    case round =>
      obtain ⟨k, hk, rfl, HI, HF⟩ := hrel
      clear H
      have s4 := HI.out.1.2.2.2.2.1
      have c1 := HI.out.2.1.2.1
      simp only at s4 c1
      by_cases hlt : k < n2
      · have hlt' : (k : Int) < (n2 : Int) := by omega
        have hki : k < d.us.length := by rw [HL.out.1]; exact hlt
        obtain ⟨B1, o1, ha1, hl1, hz1⟩ := HI.out.2.2.1.h2.at k hki
        simp only at ha1
        subst ha1
        have HU : Hid (∃ h : k < d.us.length, d.us[k] = d.us[k]) := ⟨hki, rfl⟩
        obtain ⟨u, hu⟩ : ∃ u, d.us[k] = u := ⟨_, rfl⟩
        rw [hu] at hz1
        have HU2 : Hid (∀ h : k < d.us.length, d.us[k] = u) := fun _ => hu
        clear hu
        have KM : Hid (∀ W, Calls Try.prog 82 #[.int .i64 wd] W fun e w' => e = .returned (.int .u32 (most wd)) ∧ w' = W) := fun W => most_any wd W
        have HM : Hid (most wd = most wd) := (show _ = _ from rfl)
        obtain ⟨M, hM⟩ : ∃ M, most wd = M := ⟨_, rfl⟩
        rw [hM] at KM
        have HM2 : Hid (most wd = M) := hM
        clear hM HM
        by_cases hgt : M < u
        · have HE : Hid (R = false) := by
            have := HG2.out
            have hno : d.us.all (fun n => decide (n ≤ most wd)) = false := by
              rw [← Bool.not_eq_true]
              intro hall
              have := List.all_eq_true.1 hall d.us[k] (List.getElem_mem hki)
              rw [HU2.out hki, HM2.out] at this
              simp at this
              omega
            rw [hno] at this
            show R = false
            simpa using this
          have hgt' : (M : Int) < (u : Int) := by omega
          clear HG2 HU HU2
          go_wp2_with fail
          go_quiet (first
            | (go_at_call 82; exact Calls.quiet_of_same (KM.out _)))
          have H2 : Hid (FtSt w (wr.drewN nq) b ⟨n1, n2, nt, nr, wd⟩ ⟨⟨a1, n1, k1⟩, ⟨some ⟨B1, o1, none⟩, n2, k2⟩, ⟨a3, n3, k3⟩, ⟨a4, n4, k4⟩⟩ d) := HI.out.go ⟨rfl, rfl, rfl, Nat.le_refl _, fun _ _ => rfl⟩
          clear s4 c1 hz1 HI
          generalize wr.drewN nq = Wq at *
          go_wp2_with fail
          go_ret
          exact ⟨by rw [HE.out]; rfl, H2.out.2.2.2⟩
        · have HF2 : Hid (∀ y ∈ d.us.take (k + 1), y ≤ most wd) := by
            intro y hy
            rw [List.take_succ_eq_append_getElem hki] at hy
            simp only [List.mem_append, List.mem_singleton] at hy
            rcases hy with hy | hy
            · exact HF.out y hy
            · subst hy; rw [HU2.out hki, HM2.out]; omega
          have hgt' : ¬ (M : Int) < (u : Int) := by omega
          clear HF HU HU2
          go_wp2_with fail
          go_quiet (first
            | (go_at_call 82; exact Calls.quiet_of_same (KM.out _)))
          have H2 : Hid (FtSt w (wr.drewN nq) b ⟨n1, n2, nt, nr, wd⟩ ⟨⟨a1, n1, k1⟩, ⟨some ⟨B1, o1, none⟩, n2, k2⟩, ⟨a3, n3, k3⟩, ⟨a4, n4, k4⟩⟩ d) := HI.out.go ⟨rfl, rfl, rfl, Nat.le_refl _, fun _ _ => rfl⟩
          clear s4 c1 hz1 HI KM
          generalize wr.drewN nq = Wq at *
          go_wp2_with fail
          exact ⟨⟨k + 1, by omega, by go_num, H2, HF2⟩, by simp [intOf]; omega⟩
      · have hge : ¬ (k : Int) < (n2 : Int) := by omega
        have HG3 : Hid (R = ((decide (t ≠ 16) || d.ts.all (fun s => decide (s.size ≤ 255))) && (decide (t ≠ 257) || tagB (d.ts.getD 0 ⟨#[]⟩)))) := by
          have hall := HF.out
          rw [List.take_of_length_le (by rw [HL.out.1]; omega)] at hall
          have := HG2.out
          rw [List.all_eq_true.2 (fun y hy => decide_eq_true (hall y hy))] at this
          show R = _
          rw [this]; simp
        clear HG2 HF s4
        go_wp2_with fail
        obtain ⟨wz, hz⟩ : ∃ z, z = wr := ⟨_, rfl⟩
        subst hz
        clear c1
        go_loopw [8] (fun v wr => wr = wz ∧ ∃ j : Nat, j ≤ n3 ∧ v = .int .i64 (j : Int) ∧ Hid (∀ y ∈ d.ts.take j, y.size ≤ 255)) (fun v _ => n3 - (intOf v).toNat)
        case atStart => exact ⟨rfl, 0, Nat.zero_le _, rfl, by intro y hy; simp at hy⟩
        case round =>
          obtain ⟨hwr, j, hj, rfl, HF⟩ := hrel
          subst hwr
          have c2 := HI.out.2.1.2.2.1
          simp only at c2
          by_cases h16 : t = 16
          · subst h16
            by_cases hjt : j < n3
            · have hjt' : (j : Int) < (n3 : Int) := by omega
              have hji : j < d.ts.length := by rw [HL.out.2]; exact hjt
              obtain ⟨B1, o1, ha1, hl1, hz1⟩ := HI.out.2.2.1.h3.rd.at j hji
              simp only at ha1
              subst ha1
              have hz63 := HI.out.2.2.1.h3.z63 _ (List.getElem_mem hji)
              obtain ⟨s, hs⟩ : ∃ s, d.ts[j] = s := ⟨_, rfl⟩
              rw [hs] at hz1 hz63
              have HS : Hid (∀ h : j < d.ts.length, d.ts[j] = s) := fun _ => hs
              clear hs
              by_cases hgt : 255 < s.size
              · have HE : Hid (R = false) := by
                  have := HG3.out
                  have hno : d.ts.all (fun s => decide (s.size ≤ 255)) = false := by
                    rw [← Bool.not_eq_true]
                    intro hall
                    have := List.all_eq_true.1 hall d.ts[j] (List.getElem_mem hji)
                    rw [HS.out hji] at this
                    simp at this
                    omega
                  rw [hno] at this
                  show R = false
                  simpa using this
                have hgt' : (255 : Int) < (s.size : Int) := by omega
                clear HG3 HS HF
                go_wp2_with fail
                go_ret
                exact ⟨by rw [HE.out]; rfl, HI.out.2.2.2⟩
              · have HF2 : Hid (∀ y ∈ d.ts.take (j + 1), y.size ≤ 255) := by
                  intro y hy
                  rw [List.take_succ_eq_append_getElem hji] at hy
                  simp only [List.mem_append, List.mem_singleton] at hy
                  rcases hy with hy | hy
                  · exact HF.out y hy
                  · subst hy; rw [HS.out hji]; omega
                have hgt' : ¬ (255 : Int) < (s.size : Int) := by omega
                clear HF HS HG3
                go_wp2_with fail
                exact ⟨⟨by first | rfl | trivial, j + 1, by omega, by go_num, HF2⟩, by simp [intOf]; omega⟩
            · have hjge : ¬ (j : Int) < (n3 : Int) := by omega
              have HE : Hid (R = true) := by
                have hall := HF.out
                rw [List.take_of_length_le (by rw [HL.out.2]; omega)] at hall
                have := HG3.out
                rw [List.all_eq_true.2 (fun y hy => decide_eq_true (hall y hy))] at this
                show R = true
                rw [this]; simp
              clear HG3 HF
              go_wp2_with fail
              go_ret
              exact ⟨by rw [HE.out]; rfl, HI.out.2.2.2⟩
          · have q16 : ((t : Int) == 16) = false := by simp; omega
            have HG4 : Hid (R = (decide (t ≠ 257) || tagB (d.ts.getD 0 ⟨#[]⟩))) := by
              have := HG3.out
              rw [decide_eq_true h16] at this
              show R = _
              rw [this]; simp
            clear HG3 HF
            by_cases h257 : t = 257
            · subst h257
              have h3 : 0 < n3 := H3.out rfl
              have hji : 0 < d.ts.length := by rw [HL.out.2]; exact h3
              obtain ⟨B1, o1, ha1, hl1, hz1⟩ := HI.out.2.2.1.h3.rd.at 0 hji
              simp only at ha1
              subst ha1
              have hz63 := HI.out.2.2.1.h3.z63 _ (List.getElem_mem hji)
              obtain ⟨s, hs⟩ : ∃ s, d.ts[0] = s := ⟨_, rfl⟩
              rw [hs] at hz1 hz63
              have HE : Hid (R = tagB s) := by
                have := HG4.out
                show R = _
                rw [this, ← hs]
                simp [List.getD_eq_getElem?_getD, hji]
              clear hs HG4
              have h3' : (0 : Int) < (n3 : Int) := by omega
              rw [Nat.add_zero] at hz1
              go_wp2_with fail
              refine (tag_any s hz63 _).mono ?_
              rintro e Wt ⟨rfl, rfl⟩
              go_wp2_with fail
              go_ret
              exact ⟨by rw [HE.out]; rfl, HI.out.2.2.2⟩
            · have q257 : ((t : Int) != 257) = true := by simp; omega
              have HE : Hid (R = true) := by
                have := HG4.out
                show R = true
                rw [this, decide_eq_true h257]; rfl
              clear HG4
              go_wp2_with fail
              go_ret
              exact ⟨by rw [HE.out]; rfl, HI.out.2.2.2⟩
end Go.Proofs.Ytdeoembjfdbbkaa
/- The document's own answer: how many bytes data have; whether data are of a type. -/
namespace Go.Proofs.Ytdeoembjfdbbkaa
open Go.ChangeShapes Go.WideShapes Go.ChangeAt Go.RowKit
set_option linter.unusedVariables false
set_option linter.unusedSimpArgs false


theorem tsz_snoc (t : Nat) (l : List ByteArray) (s : ByteArray) : tsz t (l ++ [s]) = tsz t l + s.size + (if t = 16 ∨ l = [] then 1 else 0) := by
  unfold tsz
  by_cases h : t = 16
  · rw [if_pos h, if_pos h, if_pos (.inl h)]
    simp [nby, nums_len]; omega
  · rw [if_neg h, if_neg h]
    cases l with
    | nil => simp
    | cons x r => simp [h, nums_len]; omega
theorem sum_snoc (l : List Nat) (n : Nat) : (l ++ [n]).sum = l.sum + n := by simp
theorem sum_take (l : List Nat) (k : Nat) : (l.take k).sum ≤ l.sum := by
  induction l generalizing k with
  | nil => simp
  | cons x l ih =>
    cases k with
    | zero => simp
    | succ k => simp; exact ih k
theorem tsz_take (t : Nat) (l : List ByteArray) (k : Nat) : tsz t (l.take k) ≤ tsz t l := by
  have step : ∀ n, tsz t (l.take (l.length - n)) ≤ tsz t l := by
    intro n
    induction n with
    | zero => simp
    | succ n ih =>
      by_cases h : l.length - n = 0
      · rw [show l.length - (n + 1) = l.length - n by omega]; exact ih
      · have e : l.length - n = (l.length - (n + 1)) + 1 := by omega
        have hlt : l.length - (n + 1) < l.length := by omega
        rw [e, List.take_succ_eq_append_getElem hlt, tsz_snoc] at ih
        omega
  by_cases hk : k ≤ l.length
  · have := step (l.length - k)
    rwa [show l.length - (l.length - k) = k by omega] at this
  · rw [List.take_of_length_le (by omega)]; exact Nat.le_refl _
def sizesG (s : Shp) (t : Nat) (d : Dat) : Nat := d.raw.length + d.us.length * s.wd + (d.ns.map nsz).sum + tsz t d.ts
theorem sizesF_eq (t : Nat) (d : Dat) : sizesF t d = sizesG (shp t) t d := rfl
set_option maxRecDepth 100000 in
set_option maxHeartbeats 4000000 in
theorem sizes_any (s : Shp) (t : Nat) (hwd : s.wd ≤ 4) (x : DA) (d : Dat) (w : World) (h : DRd w x d) (hB : sizesG s t d ≤ 1000000000000000) :
    Calls Try.prog 59 #[.int .u16 t, .agg #[.int .i64 s.nn, .int .i64 s.nu, .int .i64 s.nt, .int .i64 s.nr, .int .i64 s.wd], .agg #[.slice x.p1.a x.p1.n x.p1.c, .slice x.p2.a x.p2.n x.p2.c, .slice x.p3.a x.p3.n x.p3.c, .slice x.p4.a x.p4.n x.p4.c]] w fun e w' => e = .returned (.int .i64 (sizesG s t d : Nat)) ∧ Hid (Below w.heap.size w w') := by
  have H : Hid (FtSt w ((w.alloc (.cells #[.int .i64 s.nn, .int .i64 s.nu, .int .i64 s.nt, .int .i64 s.nr, .int .i64 s.wd] 67)).alloc (.cells #[.slice x.p1.a x.p1.n x.p1.c, .slice x.p2.a x.p2.n x.p2.c, .slice x.p3.a x.p3.n x.p3.c, .slice x.p4.a x.p4.n x.p4.c] 29)) w.heap.size s x d) := FtSt.new w s x d h
  have l1 := h.h1.len
  have l2 := h.h2.len
  have l3 := h.h3.len
  have l4 := h.h4.len
  have hc1 : x.p1.n ≤ 9223372036854775807 := Nat.le_trans h.h1.cap.1 h.h1.cap.2
  have hc3 : x.p3.n ≤ 9223372036854775807 := Nat.le_trans h.h3.cap.1 h.h3.cap.2
  clear h
  obtain ⟨nn, nu, nt, nr, wd⟩ := s
  obtain ⟨⟨a1, n1, k1⟩, ⟨a2, n2, k2⟩, ⟨a3, n3, k3⟩, ⟨a4, n4, k4⟩⟩ := x
  simp only at H l1 l2 l3 l4 hwd hc1 hc3 ⊢
  obtain ⟨Z, hZ⟩ : ∃ Z, sizesG ⟨nn, nu, nt, nr, wd⟩ t d = Z := ⟨_, rfl⟩
  rw [hZ] at hB ⊢
  have HZ : Hid (Z = n4 + n2 * wd + (d.ns.map nsz).sum + tsz t d.ts) := by
    show Z = _
    rw [← hZ]
    unfold sizesG
    rw [l4, l2]
  have HL : Hid (d.ns.length = n1 ∧ d.ts.length = n3) := ⟨l1, l3⟩
  clear hZ l1 l2 l3 l4
  obtain ⟨P, hP⟩ : ∃ P, n2 * wd = P := ⟨_, rfl⟩
  rw [hP] at HZ
  have hPi : (n2 : Int) * (wd : Int) = (P : Int) := by rw [← hP]; simp
  clear hP
  have hPb : n4 + P ≤ 1000000000000000 := by have := HZ.out; omega
  have w1 : IntKind.i64.wrap ((n2 : Int) * (wd : Int)) = (P : Int) := by rw [hPi, IntKind.wrap_i64]; omega
  have w2 : IntKind.i64.wrap ((n4 : Int) + (P : Int)) = ((n4 + P : Nat) : Int) := by rw [IntKind.wrap_i64]; omega
  clear hPi
  go_enter Try.func59, Try.ntmps59
  go_upto_region 1 with fail
  generalize ((w.alloc (.cells #[.int .i64 nn, .int .i64 nu, .int .i64 nt, .int .i64 nr, .int .i64 wd] 67)).alloc (.cells #[.slice a1 n1 k1, .slice a2 n2 k2, .slice a3 n3 k3, .slice a4 n4 k4] 29)) = W1 at *
  obtain ⟨b, hb⟩ : ∃ b, b = w.heap.size := ⟨_, rfl⟩
  rw [← hb] at H ⊢
  have Hb : Hid (b = w.heap.size) := hb
  clear hb
  have s4 := H.out.1.2.2.2.2.1
  have c1 := H.out.2.1.2.1
  have c3 := H.out.2.1.2.2.2.1
  simp only at s4 c1 c3
  go_wp2_with fail
  clear s4 c1 c3
  go_loopw [7, 8] (fun v i wr => wr = W1 ∧ ∃ k A : Nat, k ≤ n1 ∧ i = .int .i64 (k : Int) ∧ v = .int .i64 (A : Int) ∧ A ≤ Z ∧ Hid (A = n4 + P + ((d.ns.map nsz).take k).sum)) (fun _ i _ => n1 - (intOf i).toNat)
  case atStart => exact ⟨rfl, 0, n4 + P, Nat.zero_le _, rfl, by simp, by have := HZ.out; omega, by show _ = _; simp⟩
  case round =>
    obtain ⟨hwr, k, A, hk, rfl, rfl, hA, HA⟩ := hrel
    subst hwr
    have c0 := H.out.2.1.1
    simp only at c0
    by_cases hlt : k < n1
    · have hlt' : (k : Int) < (n1 : Int) := by omega
      have hki : k < d.ns.length := by rw [HL.out.1]; exact hlt
      obtain ⟨B1, o1, ha1, hl1, z1, hz1, hr1⟩ := H.out.2.2.1.h1.at k hki
      simp only at ha1
      subst ha1
      have hsum : ((d.ns.map nsz).take (k + 1)).sum = ((d.ns.map nsz).take k).sum + nsz d.ns[k] := by
        rw [List.take_succ_eq_append_getElem (by simp; exact hki), sum_snoc]; simp
      have hle := sum_take (d.ns.map nsz) (k + 1)
      have hZ := HZ.out
      have hA2 := HA.out
      have HA2 : Hid (A + nsz d.ns[k] = n4 + P + ((d.ns.map nsz).take (k + 1)).sum) := by show _ = _; omega
      have hb2 : A + nsz d.ns[k] ≤ Z := by have := HA2.out; omega
      have KS : Hid (∀ W, W = wr → Calls Try.prog 85 #[.slice z1.a z1.n z1.c] W fun e w' => e = .returned (.int .i64 (nsz d.ns[k])) ∧ w' = W) := by
        intro W e
        subst e
        exact refsize_any z1.a z1.n z1.c d.ns[k] W hr1.rd hr1.len (by omega)
      clear hsum hle hZ hA2 hr1 HA
      generalize nsz d.ns[k] = q at *
      generalize z1.a = za at *
      generalize z1.n = zn at *
      generalize z1.c = zc at *
      have w3 : IntKind.i64.wrap ((A : Int) + (q : Int)) = ((A + q : Nat) : Int) := by rw [IntKind.wrap_i64]; omega
      go_wp2_with fail
      refine (KS.out _ rfl).mono ?_
      rintro e Wx ⟨rfl, rfl⟩
      go_wp2_with fail
      refine ⟨⟨by first | rfl | trivial, k + 1, A + q, by omega, by go_num, by go_num, hb2, HA2⟩, ?_⟩
      simp [intOf]; omega
    · have hge : ¬ (k : Int) < (n1 : Int) := by omega
      have HA1 : Hid (A = n4 + P + (d.ns.map nsz).sum) := by
        have := HA.out
        rwa [List.take_of_length_le (by simp; rw [HL.out.1]; omega)] at this
      clear HA
      go_wp2_with fail
      obtain ⟨wz, hz⟩ : ∃ z, z = wr := ⟨_, rfl⟩
      subst hz
      clear c0
      go_loopw [7, 9] (fun v i wr => wr = wz ∧ ∃ j B : Nat, j ≤ n3 ∧ i = .int .i64 (j : Int) ∧ v = .int .i64 (B : Int) ∧ B ≤ Z ∧ Hid (B = A + tsz t (d.ts.take j))) (fun _ i _ => n3 - (intOf i).toNat)
      case atStart => exact ⟨rfl, 0, A, Nat.zero_le _, rfl, rfl, hA, by show _ = _; simp [tsz, nby]⟩
      case round =>
        obtain ⟨hwr, j, B, hj, rfl, rfl, hB2, HBB⟩ := hrel
        subst hwr
        have c2 := H.out.2.1.2.2.1
        simp only at c2
        by_cases hjt : j < n3
        · have hjt' : (j : Int) < (n3 : Int) := by omega
          have hji : j < d.ts.length := by rw [HL.out.2]; exact hjt
          obtain ⟨B1, o1, ha1, hl1, hz1⟩ := H.out.2.2.1.h3.rd.at j hji
          simp only at ha1
          subst ha1
          have hsn := tsz_snoc t (d.ts.take j) d.ts[j]
          rw [← List.take_succ_eq_append_getElem hji] at hsn
          have hle := tsz_take t d.ts (j + 1)
          have hZ := HZ.out
          have hA1 := HA1.out
          have hBv := HBB.out
          have hnil : d.ts.take j = [] ↔ j = 0 := by
            constructor
            · intro e
              have := congrArg List.length e
              rw [List.length_take] at this
              simp only [List.length_nil] at this
              omega
            · rintro rfl; rfl
          obtain ⟨s, hs⟩ : ∃ s, d.ts[j] = s := ⟨_, rfl⟩
          rw [hs] at hz1 hsn
          by_cases hone : t = 16 ∨ j = 0
          · rw [if_pos (by rw [hnil]; exact hone)] at hsn
            have HB3 : Hid (B + s.size + 1 = A + tsz t (d.ts.take (j + 1))) := by show _ = _; omega
            have hb3 : B + s.size + 1 ≤ Z := by have := HB3.out; omega
            clear hsn hle hZ hA1 hBv hnil hs HBB
            have w3 : IntKind.i64.wrap ((B : Int) + (s.size : Int)) = ((B + s.size : Nat) : Int) := by rw [IntKind.wrap_i64]; omega
            have w4 : IntKind.i64.wrap (((B + s.size : Nat) : Int) + 1) = ((B + s.size + 1 : Nat) : Int) := by rw [IntKind.wrap_i64]; omega
            have hcs : t = 16 ∨ (((t : Int) == 16) = false ∧ j = 0) := by
              by_cases h16 : t = 16
              · exact .inl h16
              · exact .inr ⟨by simp; omega, by omega⟩
            clear hone
            generalize B + s.size + 1 = q1 at *
            generalize B + s.size = q0 at *
            rcases hcs with h16 | ⟨h16, h00⟩
            · subst h16
              go_wp2_with fail
              refine ⟨⟨by first | rfl | trivial, j + 1, q1, by omega, by go_num, by go_num, hb3, HB3⟩, ?_⟩
              simp [intOf]; omega
            · have qj : ((j : Int) == 0) = true := by simp; omega
              have HJ0 : Hid (j = 0) := h00
              clear h00
              go_wp2_with fail
              refine ⟨⟨by first | rfl | trivial, j + 1, q1, by omega, by go_num, by go_num, hb3, HB3⟩, ?_⟩
              simp [intOf]; omega
          · rw [if_neg (by rw [hnil]; exact hone)] at hsn
            have HB3 : Hid (B + s.size = A + tsz t (d.ts.take (j + 1))) := by show _ = _; omega
            have hb3 : B + s.size ≤ Z := by have := HB3.out; omega
            clear hsn hle hZ hA1 hBv hnil hs HBB
            have w3 : IntKind.i64.wrap ((B : Int) + (s.size : Int)) = ((B + s.size : Nat) : Int) := by rw [IntKind.wrap_i64]; omega
            have q16 : ((t : Int) == 16) = false := by simp; omega
            have qj : ((j : Int) == 0) = false := by simp; omega
            clear hone
            generalize B + s.size = q0 at *
            go_wp2_with fail
            refine ⟨⟨by first | rfl | trivial, j + 1, q0, by omega, by go_num, by go_num, hb3, HB3⟩, ?_⟩
            simp [intOf]; omega
        · have hjge : ¬ (j : Int) < (n3 : Int) := by omega
          have HE : Hid (B = Z) := by
            have h1 := HBB.out
            rw [List.take_of_length_le (by rw [HL.out.2]; omega)] at h1
            have h2 := HZ.out
            have h3 := HA1.out
            show _ = _
            omega
          clear HBB
          go_wp2_with fail
          go_ret
          exact ⟨by rw [HE.out]; rfl, H.out.2.2.2⟩
end Go.Proofs.Ytdeoembjfdbbkaa
/- The document's own answer: whether data are of a type. -/
namespace Go.Proofs.Ytdeoembjfdbbkaa
open Go.ChangeShapes Go.WideShapes Go.ChangeAt Go.RowKit
set_option linter.unusedVariables false
set_option linter.unusedSimpArgs false


theorem shp_wd (t : Nat) : (shp t).wd ≤ 4 := by
  rcases shp_cases t with ⟨_, e⟩ | ⟨_, e⟩ | ⟨_, e⟩ | ⟨_, e⟩ | ⟨_, e⟩ | ⟨_, e⟩ | ⟨_, e⟩ | ⟨_, e⟩ | ⟨_, e⟩ <;> rw [e] <;> decide
theorem shp_257 (t : Nat) (h : t = 257) : (shp t).nt = 2 := by subst h; rfl
theorem nsErr_drop (l : List (List ByteArray)) (k : Nat) (h : ∀ n ∈ l.take k, nck n = 0) : nsErr l = nsErr (l.drop k) := by
  induction k generalizing l with
  | zero => rfl
  | succ k ih =>
    cases l with
    | nil => rfl
    | cons n r =>
      have h0 := h n (by simp)
      rw [List.drop_succ_cons, ← ih r (fun m hm => h m (by simp [hm]))]
      show (if nck n = 0 then nsErr r else nck n) = _
      rw [if_pos h0]
theorem nsz_mem_sum (l : List (List ByteArray)) (n : List ByteArray) (hn : n ∈ l) : nsz n ≤ (l.map nsz).sum := by
  induction l with
  | nil => simp at hn
  | cons m r ih =>
    simp only [List.mem_cons] at hn
    simp only [List.map_cons, List.sum_cons]
    rcases hn with rfl | hn
    · omega
    · have := ih hn; omega
/-- Data and a shape, each in a block of its own, the one at b, the other at g. -/
def CkSt (w W : World) (b g : Nat) (s : Shp) (x : DA) (d : Dat) : Prop := DBox W b x ∧ SBox W g s ∧ DRd W x d ∧ Below w.heap.size w W
theorem CkSt.go {w W W' : World} {b g : Nat} {s : Shp} {x : DA} {d : Dat} (h : CkSt w W b g s x d) (hb : Below W.heap.size W W') : CkSt w W' b g s x d :=
  ⟨h.1.below hb, h.2.1.below hb, h.2.2.1.below hb, h.2.2.2.trans (hb.mono h.2.2.2.size)⟩
theorem CkSt.new {w W : World} {b : Nat} (s : Shp) {x : DA} {d : Dat} (h1 : DBox W b x) (h2 : DRd W x d) (h3 : Below w.heap.size w W) : CkSt w (W.alloc (.cells #[.int .i64 s.nn, .int .i64 s.nu, .int .i64 s.nt, .int .i64 s.nr, .int .i64 s.wd] 67)) b W.heap.size s x d := by
  have hb : Below W.heap.size W (W.alloc (.cells #[.int .i64 s.nn, .int .i64 s.nu, .int .i64 s.nt, .int .i64 s.nr, .int .i64 s.wd] 67)) := (Below.refl _ _).alloc (Nat.le_refl _) _
  exact ⟨h1.below hb, SBox.new W s, h2.below hb, h3.trans (hb.mono h3.size)⟩
set_option maxRecDepth 100000 in
set_option maxHeartbeats 4000000 in
theorem rcheck_any (t : Nat) (x : DA) (d : Dat) (w : World) (h : DRd w x d) (hB : sizesF t d ≤ 1000000000000000) :
    Calls Try.prog 37 #[.int .u16 t, .agg #[.slice x.p1.a x.p1.n x.p1.c, .slice x.p2.a x.p2.n x.p2.c, .slice x.p3.a x.p3.n x.p3.c, .slice x.p4.a x.p4.n x.p4.c]] w fun e w' => e = .returned (.int .i64 (checkF t d)) ∧ Hid (Below w.heap.size w w') := by
  have hb0 : Below w.heap.size w (w.alloc (.cells #[.slice x.p1.a x.p1.n x.p1.c, .slice x.p2.a x.p2.n x.p2.c, .slice x.p3.a x.p3.n x.p3.c, .slice x.p4.a x.p4.n x.p4.c] 29)) := (Below.refl _ _).alloc (Nat.le_refl _) _
  have H : Hid (DBox (w.alloc (.cells #[.slice x.p1.a x.p1.n x.p1.c, .slice x.p2.a x.p2.n x.p2.c, .slice x.p3.a x.p3.n x.p3.c, .slice x.p4.a x.p4.n x.p4.c] 29)) w.heap.size x ∧ DRd (w.alloc (.cells #[.slice x.p1.a x.p1.n x.p1.c, .slice x.p2.a x.p2.n x.p2.c, .slice x.p3.a x.p3.n x.p3.c, .slice x.p4.a x.p4.n x.p4.c] 29)) x d ∧ Below w.heap.size w (w.alloc (.cells #[.slice x.p1.a x.p1.n x.p1.c, .slice x.p2.a x.p2.n x.p2.c, .slice x.p3.a x.p3.n x.p3.c, .slice x.p4.a x.p4.n x.p4.c] 29))) := ⟨DBox.new w x, h.below hb0, hb0⟩
  have KF : Hid (∀ W, DRd W x d → Calls Try.prog 57 #[.int .u16 t, .agg #[.int .i64 (shp t).nn, .int .i64 (shp t).nu, .int .i64 (shp t).nt, .int .i64 (shp t).nr, .int .i64 (shp t).wd], .agg #[.slice x.p1.a x.p1.n x.p1.c, .slice x.p2.a x.p2.n x.p2.c, .slice x.p3.a x.p3.n x.p3.c, .slice x.p4.a x.p4.n x.p4.c]] W fun e w' => e = .returned (.bool (fitsB t d)) ∧ Hid (Below W.heap.size W w')) := fun W hd => fits_any (shp t) t (shp_257 t) x d W hd
  have KZ : Hid (∀ W, DRd W x d → Calls Try.prog 59 #[.int .u16 t, .agg #[.int .i64 (shp t).nn, .int .i64 (shp t).nu, .int .i64 (shp t).nt, .int .i64 (shp t).nr, .int .i64 (shp t).wd], .agg #[.slice x.p1.a x.p1.n x.p1.c, .slice x.p2.a x.p2.n x.p2.c, .slice x.p3.a x.p3.n x.p3.c, .slice x.p4.a x.p4.n x.p4.c]] W fun e w' => e = .returned (.int .i64 (sizesF t d : Nat)) ∧ Hid (Below W.heap.size W w')) := fun W hd => sizes_any (shp t) t (shp_wd t) x d W hd hB
  have KO : Hid (∀ W, Calls Try.prog 48 #[.int .u16 t] W fun e w' => e = .returned (.tuple #[.agg #[.int .i64 (shp t).nn, .int .i64 (shp t).nu, .int .i64 (shp t).nt, .int .i64 (shp t).nr, .int .i64 (shp t).wd], .bool (mayT t)]) ∧ Hid (Below W.heap.size W w')) := fun W => of_any t W
  have hc1 : x.p1.n ≤ 9223372036854775807 := Nat.le_trans h.h1.cap.1 h.h1.cap.2
  have HL : Hid (d.ns.length = x.p1.n) := h.h1.len
  have HNB : Hid (∀ n ∈ d.ns, nsz n ≤ 1000000000000000) := by
    intro n hn
    have h1 := nsz_mem_sum d.ns n hn
    unfold sizesF at hB
    omega
  have HQ : Hid (checkF t d = if mayT t then (if fitsB t d then (if nsErr d.ns = 0 then (if 65535 < sizesF t d then 3 else 0) else nsErr d.ns) else 7) else 6) := (show _ = _ from rfl)
  obtain ⟨C, hC⟩ : ∃ C, checkF t d = C := ⟨_, rfl⟩
  rw [hC] at HQ ⊢
  clear hC h hb0
  generalize (shp t) = s at *
  generalize hmay : mayT t = mt at *
  generalize hfit : fitsB t d = ft at *
  generalize hsz : sizesF t d = sz at *
  clear hmay hfit hsz
  obtain ⟨nn, nu, nt, nr, wd⟩ := s
  obtain ⟨⟨a1, n1, k1⟩, ⟨a2, n2, k2⟩, ⟨a3, n3, k3⟩, ⟨a4, n4, k4⟩⟩ := x
  simp only at H KF KZ KO hc1 HL ⊢
  go_enter Try.func37, Try.ntmps37
  go_wp2_with fail
  generalize (w.alloc (.cells #[.slice a1 n1 k1, .slice a2 n2 k2, .slice a3 n3 k3, .slice a4 n4 k4] 29)) = W1 at *
  obtain ⟨b, hb⟩ : ∃ b, b = w.heap.size := ⟨_, rfl⟩
  rw [← hb] at H ⊢
  have Hb : Hid (b = w.heap.size) := hb
  clear hb
  refine (KO.out W1).mono ?_
  rintro e W2 ⟨rfl, H2⟩
  have H3 : Hid (CkSt w (W2.alloc (.cells #[.int .i64 nn, .int .i64 nu, .int .i64 nt, .int .i64 nr, .int .i64 wd] 67)) b W2.heap.size ⟨nn, nu, nt, nr, wd⟩ ⟨⟨a1, n1, k1⟩, ⟨a2, n2, k2⟩, ⟨a3, n3, k3⟩, ⟨a4, n4, k4⟩⟩ d) := CkSt.new ⟨nn, nu, nt, nr, wd⟩ (H.out.1.below H2.out) (H.out.2.1.below H2.out) (by have := H.out.2.2; rw [Hb.out] at this; exact this.trans (H2.out.mono this.size))
  clear H H2 KO
  cases mt with
  | false =>
    have HE : Hid (C = 6) := by show C = 6; have := HQ.out; simpa using this
    clear HQ KF KZ
    go_wp2_with fail
    go_ret
    exact ⟨by rw [HE.out]; rfl, H3.out.2.2.2⟩
  | true =>
    go_upto_region 4 with fail
    generalize (W2.alloc (.cells #[.int .i64 nn, .int .i64 nu, .int .i64 nt, .int .i64 nr, .int .i64 wd] 67)) = W3 at *
    generalize W2.heap.size = g at *
    have s0 := H3.out.2.1.1
    have s1 := H3.out.2.1.2.1
    have s2 := H3.out.2.1.2.2.1
    have s3 := H3.out.2.1.2.2.2.1
    have s4 := H3.out.2.1.2.2.2.2.1
    have c0 := H3.out.1.1
    have c1 := H3.out.1.2.1
    have c2 := H3.out.1.2.2.1
    have c3 := H3.out.1.2.2.2.1
    simp only at s0 s1 s2 s3 s4 c0 c1 c2 c3
    go_wp2_with fail
    refine (KF.out W3 H3.out.2.2.1).mono ?_
    rintro e W4 ⟨rfl, H4⟩
    have H5 : Hid (CkSt w W4 b g ⟨nn, nu, nt, nr, wd⟩ ⟨⟨a1, n1, k1⟩, ⟨a2, n2, k2⟩, ⟨a3, n3, k3⟩, ⟨a4, n4, k4⟩⟩ d) := H3.out.go H4.out
    clear H3 H4 KF s0 s1 s2 s3 s4 c0 c1 c2 c3
    cases ft with
    | false =>
      have HE : Hid (C = 7) := by show C = 7; have := HQ.out; simpa using this
      clear HQ KZ
      go_wp2_with fail
      go_ret
      exact ⟨by rw [HE.out]; rfl, H5.out.2.2.2⟩
    | true =>
      have HQ2 : Hid (C = if nsErr d.ns = 0 then (if 65535 < sz then 3 else 0) else nsErr d.ns) := by show C = _; have := HQ.out; simpa using this
      clear HQ
      go_wp2_with fail
      go_loopw [7] (fun i wr => wr = W4 ∧ ∃ k : Nat, k ≤ n1 ∧ i = .int .i64 (k : Int) ∧ Hid (∀ n ∈ d.ns.take k, nck n = 0)) (fun i _ => n1 - (intOf i).toNat)
      case atStart => exact ⟨rfl, 0, Nat.zero_le _, rfl, by intro n hn; simp at hn⟩
      case round =>
        obtain ⟨hwr, k, hk, rfl, HA⟩ := hrel
        subst hwr
        have c0 := H5.out.1.1
        simp only at c0
        by_cases hlt : k < n1
        · have hlt' : (k : Int) < (n1 : Int) := by omega
          have hki : k < d.ns.length := by rw [HL.out]; exact hlt
          obtain ⟨B1, o1, ha1, hl1, z1, hz1, hr1⟩ := H5.out.2.2.1.h1.at k hki
          simp only at ha1
          subst ha1
          have HD : Hid (nsErr d.ns = if nck d.ns[k] = 0 then nsErr (d.ns.drop (k + 1)) else nck d.ns[k]) := by
            show _ = _
            rw [nsErr_drop d.ns k HA.out, List.drop_eq_getElem_cons hki]
            rfl
          have HA2 : Hid (nck d.ns[k] = 0 → ∀ n ∈ d.ns.take (k + 1), nck n = 0) := by
            intro h0 n hn
            rw [List.take_succ_eq_append_getElem hki] at hn
            simp only [List.mem_append, List.mem_singleton] at hn
            rcases hn with hn | rfl
            · exact HA.out n hn
            · exact h0
          have KC : Hid (∀ W, W = wr → Calls Try.prog 58 #[.slice z1.a z1.n z1.c] W fun e w' => e = .returned (.int .i64 (nck d.ns[k])) ∧ w' = W) := by
            intro W e
            subst e
            exact refcheck_any z1.a z1.n z1.c d.ns[k] W hr1.rd hr1.len (HNB.out _ (List.getElem_mem _)) (Nat.le_trans hr1.cap.1 hr1.cap.2) hr1.z63
          clear hr1 HA
          generalize nck d.ns[k] = q at *
          generalize z1.a = za at *
          generalize z1.n = zn at *
          generalize z1.c = zc at *
          by_cases hq : q = 0
          · have hq' : (q != 0) = false := by simp [hq]
            have HA3 := HA2.out hq
            have HA4 : Hid (∀ n ∈ d.ns.take (k + 1), nck n = 0) := HA3
            clear HA3 HA2 HD hq
            go_wp2_with fail
            refine (KC.out _ rfl).mono ?_
            rintro e Wx ⟨rfl, rfl⟩
            go_wp2_with fail
            refine ⟨⟨by first | rfl | trivial, k + 1, by omega, by go_num, HA4⟩, ?_⟩
            simp [intOf]; omega
          · have hq' : (q != 0) = true := by simp [hq]
            have HE : Hid (C = q) := by
              have h1 := HQ2.out
              have h2 := HD.out
              rw [if_neg hq] at h2
              rw [h2, if_neg hq] at h1
              exact h1
            clear HA2 HD hq HQ2
            go_wp2_with fail
            refine (KC.out _ rfl).mono ?_
            rintro e Wx ⟨rfl, rfl⟩
            go_wp2_with fail
            go_ret
            exact ⟨by rw [HE.out]; rfl, H5.out.2.2.2⟩
        · have hge : ¬ (k : Int) < (n1 : Int) := by omega
          have HE : Hid (C = if 65535 < sz then 3 else 0) := by
            have h1 := HA.out
            rw [List.take_of_length_le (by rw [HL.out]; omega)] at h1
            have h2 := nsErr_drop d.ns d.ns.length (by rw [List.take_length]; exact h1)
            rw [List.drop_length] at h2
            have h3 := HQ2.out
            rw [h2] at h3
            exact h3
          clear HA HQ2
          have s0 := H5.out.2.1.1
          have s1 := H5.out.2.1.2.1
          have s2 := H5.out.2.1.2.2.1
          have s3 := H5.out.2.1.2.2.2.1
          have s4 := H5.out.2.1.2.2.2.2.1
          have c1 := H5.out.1.2.1
          have c2 := H5.out.1.2.2.1
          have c3 := H5.out.1.2.2.2.1
          simp only at s0 s1 s2 s3 s4 c1 c2 c3
          go_wp2_with fail
          refine (KZ.out wr H5.out.2.2.1).mono ?_
          rintro e W6 ⟨rfl, H6⟩
          have HB7 : Hid (Below w.heap.size w W6) := (H5.out.go H6.out).2.2.2
          clear s0 s1 s2 s3 s4 c0 c1 c2 c3 H6
          by_cases hs : 65535 < sz
          · have hs' : (65535 : Int) < (sz : Int) := by omega
            have HE2 : Hid (C = 3) := by have := HE.out; rw [if_pos hs] at this; exact this
            go_wp2_with fail
            go_ret
            exact ⟨by rw [HE2.out]; rfl, HB7⟩
          · have hs' : ¬ (65535 : Int) < (sz : Int) := by omega
            have HE2 : Hid (C = 0) := by have := HE.out; rw [if_neg hs] at this; exact this
            go_wp2_with fail
            go_ret
            exact ⟨by rw [HE2.out]; rfl, HB7⟩
end Go.Proofs.Ytdeoembjfdbbkaa
/- The document's own answer: a number's bytes. -/
namespace Go.Proofs.Ytdeoembjfdbbkaa
open Go.ChangeShapes Go.WideShapes Go.ChangeAt Go.RowKit
set_option linter.unusedVariables false
set_option linter.unusedSimpArgs false


theorem four_rd (w : World) (p q r s : Int) (hp : 0 ≤ p ∧ p ≤ 255) (hq : 0 ≤ q ∧ q ≤ 255) (hr : 0 ≤ r ∧ r ≤ 255) (hs : 0 ≤ s ∧ s ≤ 255) : Rd (w.alloc (.cells #[.int .u8 p, .int .u8 q, .int .u8 r, .int .u8 s] 5)) (some ⟨w.heap.size, 0, none⟩) [p, q, r, s] := by
  refine ⟨.inr ⟨w.heap.size, 0, rfl, by simp, fun i hi => ?_⟩, ?_⟩
  · simp only [List.length_cons, List.length_nil] at hi
    unfold World.cell?
    rw [heap_alloc_new]
    rcases (show i = 0 ∨ i = 1 ∨ i = 2 ∨ i = 3 by omega) with rfl | rfl | rfl | rfl <;> rfl
  · intro z hz
    simp only [List.mem_cons, List.not_mem_nil, or_false] at hz
    rcases hz with rfl | rfl | rfl | rfl <;> assumption
theorem rd_drop {w : World} {b o : Nat} {zs : List Int} (h : Rd w (some ⟨b, o, none⟩) zs) (k : Nat) : Rd w (some ⟨b, o + k, none⟩) (zs.drop k) := by
  refine ⟨?_, fun z hz => h.2 z (List.mem_of_mem_drop hz)⟩
  rcases h.1 with h1 | ⟨b', o', e, h2, h3⟩
  · left; rw [h1]; simp
  · cases e
    refine .inr ⟨b, o + k, rfl, h2, fun i hi => ?_⟩
    rw [List.length_drop] at hi
    rw [Nat.add_assoc, h3 (k + i) (by omega)]
    simp [List.getD_eq_getElem?_getD]
set_option maxRecDepth 100000 in
set_option maxHeartbeats 2000000 in
theorem rnumber_any (n wd : Nat) (w : World) (hw : wd = 1 ∨ wd = 2 ∨ wd = 4) (hn : n ≤ most wd) :
    Calls Try.prog 61 #[.int .u32 n, .int .i64 wd] w fun e w' => ∃ ao, e = .returned (.slice ao wd wd) ∧ Hid (Rd w' ao (numB n wd) ∧ Below w.heap.size w w') := by
  go_enter Try.func61, Try.ntmps61
  go_wp2
  go_ret
  have e4 : 4 - (4 - wd) = wd := by omega
  refine ⟨some ⟨w.heap.size, 4 - wd, none⟩, show Ending.returned (Value.slice (some ⟨w.heap.size, 4 - wd, none⟩) (4 - (4 - wd)) (4 - (4 - wd))) = _ by rw [e4], ?_, (Below.refl _ _).alloc (Nat.le_refl _) _⟩
  have hr := four_rd w ((n : Int) / 16777216 % 256) ((n : Int) / 65536 % 256) ((n : Int) / 256 % 256) ((n : Int) % 256) (by omega) (by omega) (by omega) (by omega)
  have hc := rd_drop hr (4 - wd)
  rw [Nat.zero_add] at hc
  have e : [(n : Int) / 16777216 % 256, (n : Int) / 65536 % 256, (n : Int) / 256 % 256, (n : Int) % 256].drop (4 - wd) = numB n wd := by
    rcases hw with rfl | rfl | rfl
    · simp [most] at hn; simp [numB]; omega
    · simp [most] at hn; simp [numB]; omega
    · simp [most] at hn; simp [numB]; omega
  rw [e] at hc
  exact hc
end Go.Proofs.Ytdeoembjfdbbkaa
/- A list of bytes that is grown; what data that may be are written of. -/
namespace Go.Proofs.Ytdeoembjfdbbkaa
open Go.ChangeShapes Go.WideShapes Go.ChangeAt Go.RowKit
set_option linter.unusedVariables false
set_option linter.unusedSimpArgs false


theorem own_mono {B B' : Nat} {w : World} {v : Value} {n : Nat} {zs : List Int} (h : Own B w v n zs) (hB : B' ≤ B) : Own B' w v n zs := by
  rcases h with h | ⟨g, h1, h2, h3⟩
  · exact .inl h
  · exact .inr ⟨g, h1, Nat.le_trans hB h2, h3⟩
/-- A list of bytes of one's own that is grown, over the world W3. -/
def Gr (W3 W : World) (v : Value) (m : Nat) (L : List Int) : Prop := ∃ ys, Own W3.heap.size W v m ys ∧ ys.take m = L ∧ L.length = m ∧ Below W3.heap.size W3 W
theorem Gr.nil {W3 W : World} (hb : Below W3.heap.size W3 W) : Gr W3 W (.slice none 0 0) 0 [] := ⟨[], .inl ⟨rfl, rfl, rfl⟩, rfl, rfl, hb⟩
theorem Gr.go {W3 W W' : World} {v : Value} {m : Nat} {L : List Int} (h : Gr W3 W v m L) (hb : Below W.heap.size W W') : Gr W3 W' v m L := by
  obtain ⟨ys, h1, h2, h3, h4⟩ := h
  exact ⟨ys, h1.below hb, h2, h3, h4.trans (hb.mono h4.size)⟩
theorem Gr.bel {W3 W : World} {v : Value} {m : Nat} {L : List Int} (h : Gr W3 W v m L) : Below W3.heap.size W3 W := by
  obtain ⟨ys, h1, h2, h3, h4⟩ := h
  exact h4
theorem wp_gr (W3 w : World) {ops : Array Oper} {rest : List Oper} {o : Oper} {a : Act} {Q : Exit → Act → World → Prop} (hgd : o.guard = none) (s x : Operand)
    (ho : o.op = .call { callee := .builtin .append, args := #[s, x], argTypes := #[27, 27] }) (v : Value) (m : Nat) (L : List Int) (hs : a.eval s = v) (hg : Gr W3 w v m L)
    (ao : Option Addr) (q c : Nat) (bs : List Int) (hx : a.eval x = .slice ao q c) (hr : Rd w ao bs) (hl : bs.length = q) (hc : ao = none → c = 0) (hb : m + q ≤ 140737488355328)
    (h : ∀ v' w', Hid (Gr W3 w' v' (m + q) (L ++ bs)) → wpList Try.prog ops Q rest (a.put o.dst v') w') : wpList Try.prog ops Q (o :: rest) a w := by
  obtain ⟨ys, h1, h2, h3, h4⟩ := hg
  refine wpList_append_blk w hgd s x ho W3.heap.size v m ys hs h1 ao q c bs hx hr hl hc hb h4.size ?_
  intro v' w' ys' hO' hT' hG'
  exact h v' w' ⟨ys', hO'.out, by rw [hT'.out, h2], by rw [List.length_append, h3, hl], h4.grown hG' h4.size h1.lt⟩
theorem wp_grs (W3 w : World) {ops : Array Oper} {rest : List Oper} {o : Oper} {a : Act} {Q : Exit → Act → World → Prop} (hgd : o.guard = none) (s x : Operand)
    (ho : o.op = .call { callee := .builtin .append, args := #[s, x], argTypes := #[27, 9] }) (v : Value) (m : Nat) (L : List Int) (hs : a.eval s = v) (hg : Gr W3 w v m L)
    (t : ByteArray) (hx : a.eval x = .string t) (hb : m + t.size ≤ 140737488355328)
    (h : ∀ v' w', Hid (Gr W3 w' v' (m + t.size) (L ++ nums t)) → wpList Try.prog ops Q rest (a.put o.dst v') w') : wpList Try.prog ops Q (o :: rest) a w := by
  obtain ⟨ys, h1, h2, h3, h4⟩ := hg
  refine wpList_append_str w hgd s x ho W3.heap.size v m ys hs h1 t hx hb h4.size ?_
  intro v' w' ys' hO' hT' hG'
  exact h v' w' ⟨ys', hO'.out, by rw [hT'.out, h2], by rw [List.length_append, h3, nums_len], h4.grown hG' h4.size h1.lt⟩
theorem st_gr (W3 : World) {ops : Array Oper} {o : Oper} {a : Act} {w : World} {K : Act → World → Prop} {Q : Exit → Act → World → Prop} {E : Prop} (hgd : o.guard = none) (s x : Operand)
    (ho : o.op = .call { callee := .builtin .append, args := #[s, x], argTypes := #[27, 27] }) (v : Value) (m : Nat) (L : List Int) (hs : a.eval s = v) (hg : Gr W3 w v m L)
    (ao : Option Addr) (q c : Nat) (bs : List Int) (hx : a.eval x = .slice ao q c) (hr : Rd w ao bs) (hl : bs.length = q) (hc : ao = none → c = 0) (hb : m + q ≤ 140737488355328)
    (h : ∀ v' w', Hid (Gr W3 w' v' (m + q) (L ++ bs)) → K (a.put o.dst v') w') :
    if Region.wanted o (yielded ops a.tmps) = true then Oper.wp Try.prog o a w K Q else E := by
  obtain ⟨ys, h1, h2, h3, h4⟩ := hg
  refine step_append_blk hgd s x ho W3.heap.size v m ys hs h1 ao q c bs hx hr (m + q) hl rfl hc hb h4.size ?_
  intro v' w' ys' hO' hT' hG'
  exact h v' w' ⟨ys', hO'.out, by rw [hT'.out, h2], by rw [List.length_append, h3, hl], h4.grown hG'.out h4.size h1.lt⟩
theorem flat_snoc {α : Type} (f : α → List Int) (l : List α) (k : Nat) (hk : k < l.length) : (l.take (k + 1)).flatMap f = (l.take k).flatMap f ++ f l[k] := by
  rw [List.take_succ_eq_append_getElem hk, List.flatMap_append]; simp
theorem flat_take {α : Type} (f : α → List Int) (l : List α) (k : Nat) : ((l.take k).flatMap f).length ≤ (l.flatMap f).length := by
  conv => rhs; rw [← List.take_append_drop k l, List.flatMap_append, List.length_append]
  omega
theorem tsB_len (t : Nat) (l : List ByteArray) : (tsB t l).length = tsz t l := by
  unfold tsB tsz
  split
  · rfl
  · cases l with
    | nil => rfl
    | cons s r => simp [nums_len]; omega
theorem tsB_snoc (t : Nat) (l : List ByteArray) (s : ByteArray) : tsB t (l ++ [s]) = tsB t l ++ (if t = 16 ∨ l = [] then [(s.size : Int)] else []) ++ nums s := by
  unfold tsB
  by_cases h : t = 16
  · rw [if_pos h, if_pos h, if_pos (.inl h), nby_snoc]
  · rw [if_neg h, if_neg h]
    cases l with
    | nil => simp
    | cons x r => simp [h]
/-- What data that may be are written of. -/
structure Wrt (t : Nat) (d : Dat) : Prop where
  nu : ∀ u ∈ d.us, u ≤ most (shp t).wd ∧ ((shp t).wd = 1 ∨ (shp t).wd = 2 ∨ (shp t).wd = 4)
  nm : ∀ n ∈ d.ns, nck n = 0
  tx : ∀ k (h : k < d.ts.length), (t = 16 ∨ k = 0) → d.ts[k].size ≤ 255
  sz : (d.us.flatMap (fun n => numB n (shp t).wd)).length + (d.ns.flatMap nmB).length + (tsB t d.ts).length + d.raw.length ≤ 65535
  soa : t = 6 → d.ns.length = 2 ∧ d.ts = [] ∧ d.raw = []
theorem nums_flat (us : List Nat) (wd : Nat) (h : us = [] ∨ wd = 1 ∨ wd = 2 ∨ wd = 4) : (us.flatMap (fun n => numB n wd)).length = us.length * wd := by
  rcases h with rfl | h
  · simp
  · induction us with
    | nil => simp
    | cons u r ih => rw [List.flatMap_cons, List.length_append, ih, numB_len u wd h, List.length_cons, Nat.add_mul]; omega
theorem names_flat (ns : List (List ByteArray)) : (ns.flatMap nmB).length = (ns.map nsz).sum := by
  induction ns with
  | nil => rfl
  | cons n r ih => rw [List.flatMap_cons, List.length_append, ih, nmB_len]; rfl
theorem wrt_of {t : Nat} {d : Dat} (h : checkF t d = 0) : Wrt t d := by
  obtain ⟨h1, h2, h3, h4⟩ := check_parts h
  have hf := (fit_iff t d).1 h2
  obtain ⟨fns, fus, fts, ft1, fraw, fun_, ftx, ftg⟩ := hf
  have hwd : d.us = [] ∨ ((shp t).wd = 1 ∨ (shp t).wd = 2 ∨ (shp t).wd = 4) := by
    rcases shp_cases t with ⟨_, e⟩ | ⟨_, e⟩ | ⟨_, e⟩ | ⟨_, e⟩ | ⟨_, e⟩ | ⟨_, e⟩ | ⟨_, e⟩ | ⟨_, e⟩ | ⟨_, e⟩ <;> rw [e] at fus ⊢ <;> simp only at fus ⊢ <;> first | exact .inl (len0 fus) | (right; decide)
  refine ⟨?_, h3, ?_, ?_, ?_⟩
  · intro u hu
    refine ⟨fun_ u hu, ?_⟩
    rcases hwd with h | h
    · rw [h] at hu; simp at hu
    · exact h
  · intro k hk hor
    by_cases h16 : t = 16
    · exact ftx h16 _ (List.getElem_mem hk)
    · have hk0 : k = 0 := hor.resolve_left h16
      subst hk0
      by_cases h257 : t = 257
      · have htg := ftg h257
        unfold tagB at htg
        simp only [Bool.and_eq_true, decide_eq_true_eq] at htg
        have e : d.ts.getD 0 ⟨#[]⟩ = d.ts[0] := by simp [List.getD_eq_getElem?_getD, hk]
        rw [e] at htg
        omega
      · have h0 : (shp t).nt = 0 := by
          rcases shp_cases t with ⟨_, e⟩ | ⟨_, e⟩ | ⟨_, e⟩ | ⟨_, e⟩ | ⟨_, e⟩ | ⟨_, e⟩ | ⟨h', e⟩ | ⟨h', e⟩ | ⟨_, e⟩ <;> first | exact absurd h' h16 | exact absurd h' h257 | rw [e]
        rw [h0] at fts
        omega
  · rw [nums_flat d.us _ hwd, names_flat, tsB_len]
    unfold sizesF at h4
    omega
  · intro h6
    subst h6
    refine ⟨fns, len0 ?_, len0 ?_⟩
    · rcases fts with h | h
      · exact absurd h (by decide)
      · have e : (shp 6).nt = 0 := rfl
        rw [e] at h; omega
    · rcases fraw with h | h
      · exact absurd h (by decide)
      · have e : (shp 6).nr = 0 := rfl
        rw [e] at h; omega
theorem rd_none {w : World} {zs : List Int} (h : Rd w none zs) : zs = [] := by
  rcases h.1 with h1 | ⟨b, o, e, _⟩
  · exact h1
  · cases e
theorem nbytes_rd (a : Option Addr) (n c : Nat) (ss : List ByteArray) (w : World) (h : Nm w a n ss) (hk : nck ss = 0) :
    Calls Try.prog 60 #[.slice a n c] w fun e w' => ∃ ao cc, e = .returned (.tuple #[.slice ao (nmB ss).length cc, .int .i64 0]) ∧ Hid (Rd w' ao (nmB ss) ∧ (ao = none → cc = 0) ∧ Below w.heap.size w w') := by
  have hp : nbytes ss = (nmB ss, 0) := by unfold nbytes; rw [if_pos hk]; rfl
  have := refnbytes_any a n c ss w h
  rw [hp] at this
  refine this.mono ?_
  rintro e w' ⟨v, ys, rfl, H⟩
  obtain ⟨h1, h2, h3⟩ := H.out
  simp only at h1 h2
  obtain ⟨ao, rfl, hoa⟩ := h1.addr
  have hrd := hoa.rdTake (nmB ss).length
  rw [h2] at hrd
  refine ⟨ao, ys.length, rfl, hrd, ?_, h3⟩
  rintro rfl
  have := rd_none hrd
  simp [nmB] at this
end Go.Proofs.Ytdeoembjfdbbkaa
