/- Texts laid together: Ak Bw Ja Jb Jc. -/
import Derived.Test.YtdeoembjfdbbkaaPri
import Derived.Deep.CutBlock
import Derived.Deep.RegionLaw
/- What the document's examples say, at the head of each statement. -/
namespace Go.Proofs.Ytdeoembjfdbbkaa
open Go.ChangeShapes Go.WideShapes Go.ChangeAt Go.RowKit
set_option linter.unusedVariables false
set_option linter.unusedSimpArgs false

theorem rdv_new (w : World) (xs : List Value) (t : TypeId) : RdV (w.alloc (.cells xs.toArray t)) (some ⟨w.heap.size, 0, none⟩) xs := by
  refine .inr ⟨w.heap.size, 0, rfl, by simp, fun i hi => ?_⟩
  rw [Nat.zero_add]
  exact (show BlkV (w.alloc (.cells xs.toArray t)) w.heap.size t xs from heap_alloc_new _ _).cell i hi
theorem new_u (w : World) (us : List Nat) (n : Nat) (hn : us.length = n) (hm : n ≤ 1000) (hb : ∀ x ∈ us, x ≤ 4294967295) : URd (w.alloc (.cells (uv us).toArray 54)) ⟨some ⟨w.heap.size, 0, none⟩, n, n⟩ us :=
  ⟨rdv_new w (uv us) 54, hn, ⟨Nat.le_refl _, by simp only; omega⟩, by simp, hb⟩
theorem new_t (w : World) (ss : List ByteArray) (n : Nat) (hn : ss.length = n) (hm : n ≤ 1000) (hb : ∀ x ∈ ss, x.size ≤ 9223372036854775807) : TRd (w.alloc (.cells (tv ss).toArray 9)) ⟨some ⟨w.heap.size, 0, none⟩, n, n⟩ ss :=
  ⟨rdv_new w (tv ss) 9, hn, ⟨Nat.le_refl _, by simp only; omega⟩, by simp, hb⟩
theorem new_n1 (w : World) (s : Sl) (nm : List ByteArray) (h : TRd w s nm) : NRd (w.alloc (.cells #[.slice s.a s.n s.c] 53)) ⟨some ⟨w.heap.size, 0, none⟩, 1, 1⟩ [nm] := by
  refine ⟨.inr ⟨w.heap.size, 0, rfl, by simp, fun i hi => ?_⟩, rfl, ⟨Nat.le_refl _, by simp⟩, by simp⟩
  have : i = 0 := by simp at hi; omega
  subst this
  exact ⟨s, (show BlkV (w.alloc (.cells [Value.slice s.a s.n s.c].toArray 53)) w.heap.size 53 [Value.slice s.a s.n s.c] from heap_alloc_new _ _).cell 0 (by simp), h.below (new_below _ _)⟩
theorem new_b (w : World) (zs : List Int) (n : Nat) (hn : zs.length = n) (hm : n ≤ 1000) (hb : ∀ z ∈ zs, 0 ≤ z ∧ z ≤ 255) : BRd (w.alloc (.cells (zs.map (Value.int .u8)).toArray 5)) ⟨some ⟨w.heap.size, 0, none⟩, n, n⟩ zs := by
  refine ⟨⟨?_, hb⟩, hn, ⟨Nat.le_refl _, by simp only; omega⟩, by simp⟩
  have hblk : Blk (w.alloc (.cells (zs.map (Value.int .u8)).toArray 5)) w.heap.size zs := ⟨heap_alloc_new _ _, hb⟩
  exact .inr ⟨w.heap.size, 0, rfl, hblk.lt, fun i hi => by rw [Nat.zero_add]; exact hblk.cell i hi⟩
/-- What is written is read. -/
theorem readF_write (t : Nat) (d : Dat) (zs : List Int) (hck : checkF t d = 0) (hw : writeF t d = zs) (hl : zs.length ≤ 65535) : readF t zs = (d, 0) := by
  obtain ⟨hm, _, _, _⟩ := check_parts hck
  have := read_write t d hck
  rw [hw] at this
  unfold readF
  rw [if_pos hm, if_pos hl, this]
theorem readF_fail {t : Nat} {zs : List Int} (h : (readF t zs).2 ≠ 0) : (readF t zs).2 = 8 ∨ (readF t zs).2 = 6 := by
  unfold readF at h ⊢
  by_cases h1 : mayT t = true
  · rw [if_pos h1] at h ⊢
    by_cases h2 : zs.length ≤ 65535
    · rw [if_pos h2] at h ⊢
      cases hd : dreadF t zs with
      | none => exact .inl rfl
      | some d => rw [hd] at h; exact absurd rfl h
    · rw [if_neg h2]; exact .inl rfl
  · rw [if_neg h1]; exact .inr rfl
theorem readF_ok {t : Nat} {zs : List Int} (h : (readF t zs).2 = 0) : checkF t (readF t zs).1 = 0 ∧ writeF t (readF t zs).1 = zs ∧ zs.length ≤ 65535 := by
  unfold readF at h ⊢
  by_cases h1 : mayT t = true
  · rw [if_pos h1] at h ⊢
    by_cases h2 : zs.length ≤ 65535
    · rw [if_pos h2] at h ⊢
      cases hd : dreadF t zs with
      | none => rw [hd] at h; cases h
      | some d =>
        have := write_read hd
        exact ⟨this.1, this.2, h2⟩
    · rw [if_neg h2] at h; cases h
  · rw [if_neg h1] at h; cases h
abbrev mxD : Dat := ⟨[[⟨#[97]⟩]], [10], [], []⟩
abbrev txD : Dat := ⟨[], [], [⟨#[97]⟩, ⟨#[]⟩], []⟩
theorem mx_ck : checkF 15 mxD = 0 := by decide +kernel
theorem mx_wr : writeF 15 mxD = [0, 10, 1, 97, 0] := by decide +kernel
theorem tx_ck : checkF 16 txD = 0 := by decide +kernel
theorem tx_wr : writeF 16 txD = [1, 97, 0] := by decide +kernel
theorem tx_rd : readF 16 [1, 97, 0] = (txD, 0) := readF_write 16 txD _ tx_ck tx_wr (by simp)
set_option maxRecDepth 100000 in
set_option maxHeartbeats 4000000 in
theorem awake_any (w : World) : Calls Try.prog 31 #[] w fun e w' => e = .returned (.bool true) ∧ Hid (Below w.heap.size w w') := by
  have h1 := new_u w [10] 1 rfl (by omega) (by simp)
  obtain ⟨W1, hW1⟩ : ∃ W, W = w.alloc (.cells #[.int .u32 10] 54) := ⟨_, rfl⟩
  have h1' : URd W1 ⟨some ⟨w.heap.size, 0, none⟩, 1, 1⟩ [10] := by rw [hW1]; exact h1
  have b1 : Below w.heap.size w W1 := by rw [hW1]; exact new_below _ _
  have z1 : W1.heap.size = w.heap.size + 1 := by rw [hW1]; simp
  have h2 : TRd (W1.alloc (.cells #[.string ⟨#[97]⟩] 9)) ⟨some ⟨W1.heap.size, 0, none⟩, 1, 1⟩ [⟨#[97]⟩] := new_t W1 [⟨#[97]⟩] 1 rfl (by omega) (by intro x hx; simp at hx; subst hx; decide)
  have b2 := new_below W1 (.cells #[.string ⟨#[97]⟩] 9)
  obtain ⟨W2, hW2⟩ : ∃ W, W = W1.alloc (.cells #[.string ⟨#[97]⟩] 9) := ⟨_, rfl⟩
  rw [← hW2] at h2 b2
  have z2 : W2.heap.size = w.heap.size + 1 + 1 := by rw [hW2]; simp [z1]
  have h3 := new_n1 W2 ⟨some ⟨W1.heap.size, 0, none⟩, 1, 1⟩ [⟨#[97]⟩] h2
  have b3 := new_below W2 (.cells #[.slice (some ⟨W1.heap.size, 0, none⟩) 1 1] 53)
  obtain ⟨W3, hW3⟩ : ∃ W, W = W2.alloc (.cells #[.slice (some ⟨W1.heap.size, 0, none⟩) 1 1] 53) := ⟨_, rfl⟩
  simp only at h3
  rw [← hW3] at h3 b3
  have b13 : Below W1.heap.size W1 W3 := b2.trans (b3.mono b2.size)
  have HD : Hid (DRd W3 ⟨⟨some ⟨w.heap.size + 1 + 1, 0, none⟩, 1, 1⟩, ⟨some ⟨w.heap.size, 0, none⟩, 1, 1⟩, ⟨none, 0, 0⟩, ⟨none, 0, 0⟩⟩ mxD) := by
    rw [z2] at h3
    exact ⟨h3, h1'.below b13, nil_trd _, nil_brd _⟩
  have HB : Hid (Below w.heap.size w W3) := b1.trans (b13.mono b1.size)
  have hW : ((w.alloc (.cells #[.int .u32 10] 54)).alloc (.cells #[.string ⟨#[97]⟩] 9)).alloc (.cells #[.slice (some ⟨w.heap.size + 1, 0, none⟩) 1 1] 53) = W3 := by rw [hW3, hW2, z1, hW1]
  clear h1 h1' b1 h2 b2 h3 b3 b13 hW1 hW2 hW3
  have KB := bytes5_any 15 ⟨⟨some ⟨w.heap.size + 1 + 1, 0, none⟩, 1, 1⟩, ⟨some ⟨w.heap.size, 0, none⟩, 1, 1⟩, ⟨none, 0, 0⟩, ⟨none, 0, 0⟩⟩ mxD W3 HD.out ⟨by decide, by decide, by decide, by decide, by decide⟩
  rw [mx_ck, mx_wr] at KB
  have KBH : Hid (Calls Try.prog 10 #[.int .u16 15, .agg #[.slice (some ⟨w.heap.size + 1 + 1, 0, none⟩) 1 1, .slice (some ⟨w.heap.size, 0, none⟩) 1 1, .slice none 0 0, .slice none 0 0]] W3 fun e w' => ∃ s : Sl, e = .returned (.tuple #[.slice s.a s.n s.c, .int .i64 0]) ∧ Hid (s.n = 5 ∧ Rd w' s.a [0, 10, 1, 97, 0] ∧ Below W3.heap.size W3 w')) := by
    refine Calls.mono KB ?_
    rintro e w' ⟨s, rfl, H⟩
    obtain ⟨q1, q2, q3, q4, q5, q6⟩ := H.out
    exact ⟨s, rfl, (q4 rfl).1, (q4 rfl).2, q6⟩
  clear KB HD
  go_enter Try.func31, Try.ntmps31
  go_wp2_with fail
  try rw [hW]
  clear hW
  refine KBH.out.mono ?_
  rintro e W4 ⟨s, rfl, H4⟩
  clear KBH
  have h5 : BRd (W4.alloc (.cells #[.int .u8 1, .int .u8 97, .int .u8 0] 5)) ⟨some ⟨W4.heap.size, 0, none⟩, 3, 3⟩ [1, 97, 0] := new_b W4 [1, 97, 0] 3 rfl (by omega) (by decide)
  have b5 := new_below W4 (.cells #[.int .u8 1, .int .u8 97, .int .u8 0] 5)
  have H5 : Hid (Rd (W4.alloc (.cells #[.int .u8 1, .int .u8 97, .int .u8 0] 5)) s.a [0, 10, 1, 97, 0] ∧ s.n = 5 ∧ Below w.heap.size w (W4.alloc (.cells #[.int .u8 1, .int .u8 97, .int .u8 0] 5)) ∧ Rd (W4.alloc (.cells #[.int .u8 1, .int .u8 97, .int .u8 0] 5)) (some ⟨W4.heap.size, 0, none⟩) [1, 97, 0]) := ⟨H4.out.2.1.below b5, H4.out.1, (HB.out.trans (H4.out.2.2.mono HB.out.size)).trans (b5.mono (HB.out.trans (H4.out.2.2.mono HB.out.size)).size), h5.rd⟩
  clear h5 b5 H4 HB
  go_wp2_with fail
  generalize W4.alloc (.cells #[.int .u8 1, .int .u8 97, .int .u8 0] 5) = W5 at *
  generalize W4.heap.size = g4 at *
  have KR := read5_any 16 (some ⟨g4, 0, none⟩) 3 3 [1, 97, 0] W5 H5.out.2.2.2 rfl (by omega) (by simp)
  rw [tx_rd] at KR
  have KRH : Hid (Calls Try.prog 27 #[.int .u16 16, .slice (some ⟨g4, 0, none⟩) 3 3] W5 (RdP (txD, 0) W5)) := KR
  clear KR
  refine KRH.out.mono ?_
  rintro e W6 ⟨x, rfl, H6⟩
  clear KRH
  go_upto_region 3 with fail
  have b7 := new_below W6 (.cells #[.slice x.p1.a x.p1.n x.p1.c, .slice x.p2.a x.p2.n x.p2.c, .slice x.p3.a x.p3.n x.p3.c, .slice x.p4.a x.p4.n x.p4.c] 29)
  have H7 : Hid (DBlk (W6.alloc (.cells #[.slice x.p1.a x.p1.n x.p1.c, .slice x.p2.a x.p2.n x.p2.c, .slice x.p3.a x.p3.n x.p3.c, .slice x.p4.a x.p4.n x.p4.c] 29)) W6.heap.size x ∧ TRd (W6.alloc (.cells #[.slice x.p1.a x.p1.n x.p1.c, .slice x.p2.a x.p2.n x.p2.c, .slice x.p3.a x.p3.n x.p3.c, .slice x.p4.a x.p4.n x.p4.c] 29)) x.p3 [⟨#[97]⟩, ⟨#[]⟩] ∧ Rd (W6.alloc (.cells #[.slice x.p1.a x.p1.n x.p1.c, .slice x.p2.a x.p2.n x.p2.c, .slice x.p3.a x.p3.n x.p3.c, .slice x.p4.a x.p4.n x.p4.c] 29)) s.a [0, 10, 1, 97, 0] ∧ Below w.heap.size w (W6.alloc (.cells #[.slice x.p1.a x.p1.n x.p1.c, .slice x.p2.a x.p2.n x.p2.c, .slice x.p3.a x.p3.n x.p3.c, .slice x.p4.a x.p4.n x.p4.c] 29))) := by
    obtain ⟨q1, q2⟩ := H6.out
    obtain ⟨p1, p2, p3, p4⟩ := H5.out
    exact ⟨heap_alloc_new _ _, q1.2.2.1.rd.below b7, (p1.below q2).below b7, (p3.trans (q2.mono p3.size)).trans (b7.mono (Nat.le_trans p3.size q2.size))⟩
  have hsn : s.n = 5 := H5.out.2.1
  clear b7 H6 H5
  generalize W6.alloc (.cells #[.slice x.p1.a x.p1.n x.p1.c, .slice x.p2.a x.p2.n x.p2.c, .slice x.p3.a x.p3.n x.p3.c, .slice x.p4.a x.p4.n x.p4.c] 29) = W7 at *
  generalize W6.heap.size = D at *
  obtain ⟨x1, x2, ⟨a3, n3, c3⟩, x4⟩ := x
  have hn3 : n3 = 2 := H7.out.2.1.len.symm
  subst hn3
  obtain ⟨sa, sn, sc⟩ := s
  simp only at hsn H7 ⊢
  subst hsn
  have hcv : (convert 27 9 (.slice sa 5 sc)).run Try.prog W7 = .ok (.string ⟨#[0, 10, 1, 97, 0]⟩) W7 := conv_rd sa 5 sc [0, 10, 1, 97, 0] W7 H7.out.2.2.1 rfl
  have d2 : W7.cell? ⟨D, 2, none⟩ = some (.slice a3 2 c3) := H7.out.1.box.2.2.1
  have hDl := H7.out.1.lt
  have K8 : Hid (Calls Try.prog 46 #[.slice a3 2 c3, .slice (some ⟨W7.heap.size, 0, none⟩) 2 2] (W7.alloc (.cells #[.string ⟨#[97]⟩, .string ⟨#[]⟩] 9)) fun e w' => e = .returned (.bool true) ∧ Hid (Below (W7.alloc (.cells #[.string ⟨#[97]⟩, .string ⟨#[]⟩] 9)).heap.size (W7.alloc (.cells #[.string ⟨#[97]⟩, .string ⟨#[]⟩] 9)) w')) := sameT_yes a3 (some ⟨W7.heap.size, 0, none⟩) 2 c3 2 [⟨#[97]⟩, ⟨#[]⟩] _ (H7.out.2.1.rd.below (new_below _ _)) (rdv_new W7 (tv [⟨#[97]⟩, ⟨#[]⟩]) 9) rfl (by omega)
  have HB8 : Hid (Below w.heap.size w (W7.alloc (.cells #[.string ⟨#[97]⟩, .string ⟨#[]⟩] 9))) := H7.out.2.2.2.trans ((new_below _ _).mono H7.out.2.2.2.size)
  go_wp2_with fail
  refine K8.out.mono ?_
  rintro e W9 ⟨rfl, H9⟩
  have HB9 : Hid (Below w.heap.size w W9) := HB8.out.trans (H9.out.mono HB8.out.size)
  clear K8 HB8 H9 H7
  go_wp2_with fail
  go_ret
  exact ⟨rfl, HB9⟩
end Go.Proofs.Ytdeoembjfdbbkaa
/- The walk of the statement on the way back of data. -/
namespace Go.Proofs.Ytdeoembjfdbbkaa
open Go.ChangeShapes Go.WideShapes Go.ChangeAt Go.RowKit
set_option linter.unusedVariables false
set_option linter.unusedSimpArgs false

theorem wlen {t : Nat} {d : Dat} (hck : checkF t d = 0) : (writeF t d).length ≤ 65535 := by
  obtain ⟨hm, hf, hnk, hsz⟩ := check_parts hck
  have hwr := wrt_of hck
  obtain ⟨hq1, hq2, hq3, hq4, hq5, hq6⟩ := wr_eq t d hf
  rw [← hq6]
  have h1 := hwr.sz
  rw [hq1, ← hq4] at h1
  have h2 : (ptB (d.ts.length - (fs t).tl) d.ts).length = (tsB t d.ts).length := by
    have e1 := congrArg List.length hq6
    unfold writeF at e1
    by_cases h6 : t = 6
    · obtain ⟨_, e2, e3⟩ := hwr.soa h6
      rw [e2]; simp [ptB, tsB, nby]
    · rw [if_neg h6, hq1, hq4] at e1
      simp only [List.length_append] at e1
      omega
  simp only [List.length_append] at h1 ⊢
  omega
theorem readF_bd {t : Nat} {zs : List Int} (hb : ∀ z ∈ zs, 0 ≤ z ∧ z ≤ 255) (h : (readF t zs).2 = 0) : Bd (readF t zs).1 := by
  obtain ⟨h1, h2, h3⟩ := readF_ok h
  have hm := (check_parts h1).1
  have e := readF_at t zs hb hm h3
  by_cases c1 : (pread (fs t) zs zs.length).2 = some zs.length
  · by_cases c2 : checkF t (pread (fs t) zs zs.length).1 = 0
    · rw [if_pos c1, if_pos c2] at e
      rw [e]
      exact pread_bd t zs h3
    · rw [if_pos c1, if_neg c2] at e
      rw [e] at h; cases h
  · rw [if_neg c1] at e
    rw [e] at h; cases h
/-- Where the walk stands: the data's box, the data, the bytes can be read. -/
structure BS (w W : World) (b : Nat) (x : DA) (d : Dat) (a : Option Addr) (zs : List Int) : Prop where
  blk : DBlk W b x
  rd : DRd W x d
  bs : Rd W a zs
  bel : Below w.heap.size w W
theorem BS.go {w W W' : World} {b : Nat} {x : DA} {d : Dat} {a : Option Addr} {zs : List Int} (h : BS w W b x d a zs) (hb : Below W.heap.size W W') : BS w W' b x d a zs :=
  ⟨h.blk.same (hb.block b h.blk.lt), h.rd.below hb, h.bs.below hb, h.bel.trans (hb.mono h.bel.size)⟩
set_option maxRecDepth 100000 in
set_option maxHeartbeats 8000000 in
theorem back_any (t : Nat) (x : DA) (d : Dat) (a : Option Addr) (len cap : Nat) (zs : List Int) (w : World) (h : DRd w x d) (hb : BRd w ⟨a, len, cap⟩ zs) :
    Calls Try.prog 5 #[.int .u16 t, .agg #[.slice x.p1.a x.p1.n x.p1.c, .slice x.p2.a x.p2.n x.p2.c, .slice x.p3.a x.p3.n x.p3.c, .slice x.p4.a x.p4.n x.p4.c], .slice a len cap] w fun e w' => e = .returned (.bool true) ∧ Below w.heap.size w w' := by
  have hl : zs.length = len := hb.len
  have hc : len ≤ cap ∧ cap ≤ 9223372036854775807 := hb.cap
  have hnil : a = none → cap = 0 := hb.nil
  have hbd := hb.rd.2
  have HS1 : Hid (BS w (w.alloc (.cells #[.slice x.p1.a x.p1.n x.p1.c, .slice x.p2.a x.p2.n x.p2.c, .slice x.p3.a x.p3.n x.p3.c, .slice x.p4.a x.p4.n x.p4.c] 29)) w.heap.size x d a zs) := ⟨heap_alloc_new _ _, h.below (new_below _ _), hb.rd.below (new_below _ _), new_below _ _⟩
  have KA : Hid (∀ W, Calls Try.prog 31 #[] W fun e w' => e = .returned (.bool true) ∧ Hid (Below W.heap.size W w')) := awake_any
  have KL : Hid (∀ W, DRd W x d → Calls Try.prog 8 #[.agg #[.slice x.p1.a x.p1.n x.p1.c, .slice x.p2.a x.p2.n x.p2.c, .slice x.p3.a x.p3.n x.p3.c, .slice x.p4.a x.p4.n x.p4.c]] W (LgPost d W)) := fun W hW => large_any x d W hW
  have KB : Hid (Small d → ∀ W, DRd W x d → Calls Try.prog 10 #[.int .u16 t, .agg #[.slice x.p1.a x.p1.n x.p1.c, .slice x.p2.a x.p2.n x.p2.c, .slice x.p3.a x.p3.n x.p3.c, .slice x.p4.a x.p4.n x.p4.c]] W (fun e w' => ∃ (s : Sl), e = .returned (.tuple #[.slice s.a s.n s.c, .int .i64 (checkF t d)]) ∧ Hid (s.n ≤ s.c ∧ s.c ≤ 9223372036854775807 ∧ (s.a = none → s.c = 0) ∧ (checkF t d = 0 → s.n = (writeF t d).length ∧ Rd w' s.a (writeF t d)) ∧ (checkF t d ≠ 0 → s = ⟨none, 0, 0⟩) ∧ Below W.heap.size W w'))) := fun hs W hW => bytes5_any t x d W hW hs.bd
  have KC : Hid (Small d → ∀ W, DRd W x d → Calls Try.prog 13 #[.int .u16 t, .agg #[.slice x.p1.a x.p1.n x.p1.c, .slice x.p2.a x.p2.n x.p2.c, .slice x.p3.a x.p3.n x.p3.c, .slice x.p4.a x.p4.n x.p4.c]] W fun e w' => e = .returned (.int .i64 (checkF t d)) ∧ Hid (Below W.heap.size W w')) := fun hs W hW => check_any t x d W hW hs.bd
  have KR : Hid (∀ W, Rd W a zs → Calls Try.prog 27 #[.int .u16 t, .slice a len cap] W (RdP (readF t zs) W)) := fun W hW => read5_any t a len cap zs W hW hl hc hnil
  have KRW : Hid (checkF t d = 0 → ∀ W (s : Sl), s.n = (writeF t d).length → Rd W s.a (writeF t d) → s.n ≤ s.c → s.c ≤ 9223372036854775807 → (s.a = none → s.c = 0) → Calls Try.prog 27 #[.int .u16 t, .slice s.a s.n s.c] W (RdP (d, 0) W)) := by
    intro hck W s h1 h2 h3 h4 h5
    have := read5_any t s.a s.n s.c (writeF t d) W h2 h1.symm ⟨h3, h4⟩ h5
    rw [readF_write t d _ hck rfl (wlen hck)] at this
    exact this
  have HRR : Hid ((readF t zs).2 ≠ 0 → (readF t zs).2 = 8 ∨ (readF t zs).2 = 6) := readF_fail
  have HBB : Hid ((readF t zs).2 = 0 → ∀ W y, DRd W y (readF t zs).1 → Calls Try.prog 10 #[.int .u16 t, .agg #[.slice y.p1.a y.p1.n y.p1.c, .slice y.p2.a y.p2.n y.p2.c, .slice y.p3.a y.p3.n y.p3.c, .slice y.p4.a y.p4.n y.p4.c]] W (fun e w' => ∃ (s : Sl), e = .returned (.tuple #[.slice s.a s.n s.c, .int .i64 0]) ∧ Hid (s.n = len ∧ Rd w' s.a zs ∧ Below W.heap.size W w'))) := by
    intro h0 W y hy
    obtain ⟨h1, h2, h3⟩ := readF_ok h0
    have := bytes5_any t y _ W hy (readF_bd hbd h0)
    rw [h1, h2] at this
    refine Calls.mono this ?_
    rintro e w' ⟨s, rfl, H⟩
    obtain ⟨_, _, _, q4, _, q6⟩ := H.out
    exact ⟨s, rfl, by rw [(q4 rfl).1, hl], (q4 rfl).2, q6⟩
  have KS : Hid (∀ W y, DRd W y d → DRd W x d → Calls Try.prog 17 #[.agg #[.slice y.p1.a y.p1.n y.p1.c, .slice y.p2.a y.p2.n y.p2.c, .slice y.p3.a y.p3.n y.p3.c, .slice y.p4.a y.p4.n y.p4.c], .agg #[.slice x.p1.a x.p1.n x.p1.c, .slice x.p2.a x.p2.n x.p2.c, .slice x.p3.a x.p3.n x.p3.c, .slice x.p4.a x.p4.n x.p4.c]] W fun e w' => e = .returned (.bool true) ∧ Hid (Below W.heap.size W w')) := fun W y h1 h2 => samedata_yes y x d W h1 h2
  have KSB : Hid (∀ W (s : Sl), s.n = len → Rd W s.a zs → Rd W a zs → Calls Try.prog 12 #[.slice s.a s.n s.c, .slice a len cap] W fun e w' => e = .returned (.bool true) ∧ w' = W) := by
    intro W s h1 h2 h3
    rw [h1]
    exact same_yes s.a a len s.c cap zs W h2 h3 hl
  clear h hb hbd hnil hl
  generalize writeF t d = WD at *
  generalize checkF t d = C at *
  generalize readF t zs = RR at *
  obtain ⟨rd, rc⟩ := RR
  simp only at HRR HBB KR
  go_enter Try.func5, Try.ntmps5
  go_upto_region 1 with fail
  generalize (w.alloc (.cells #[.slice x.p1.a x.p1.n x.p1.c, .slice x.p2.a x.p2.n x.p2.c, .slice x.p3.a x.p3.n x.p3.c, .slice x.p4.a x.p4.n x.p4.c] 29)) = W1 at *
  obtain ⟨b, hb⟩ : ∃ b, b = w.heap.size := ⟨_, rfl⟩
  rw [← hb] at HS1 ⊢
  have Hb : Hid (b = w.heap.size) := hb
  clear hb
  go_wp2_with fail
  refine (KA.out _).mono ?_
  rintro e W2 ⟨rfl, H2⟩
  have HS2 : Hid (BS w W2 b x d a zs) := HS1.out.go H2.out
  clear HS1 H2 KA
  have c0 : W2.cell? ⟨b, 0, none⟩ = some (.slice x.p1.a x.p1.n x.p1.c) := HS2.out.blk.box.1
  have c1 : W2.cell? ⟨b, 1, none⟩ = some (.slice x.p2.a x.p2.n x.p2.c) := HS2.out.blk.box.2.1
  have c2 : W2.cell? ⟨b, 2, none⟩ = some (.slice x.p3.a x.p3.n x.p3.c) := HS2.out.blk.box.2.2.1
  have c3 : W2.cell? ⟨b, 3, none⟩ = some (.slice x.p4.a x.p4.n x.p4.c) := HS2.out.blk.box.2.2.2.1
  have hbl := HS2.out.blk.lt
  go_wp2_with fail
  refine (KL.out _ HS2.out.rd).mono ?_
  rintro e W3 ⟨bl, rfl, hsm, hb3⟩
  have HS3 : Hid (BS w W3 b x d a zs) := HS2.out.go hb3
  clear HS2 KL c0 c1 c2 c3 hb3 hbl
  cases bl with
  | true =>
    clear hsm
    go_wp2_with fail
    go_ret
    exact ⟨rfl, HS3.out.bel⟩
  | false =>
    have hs := hsm rfl
    have KB2 := KB.out hs
    have KC2 := KC.out hs
    have HKB : Hid (∀ W, DRd W x d → Calls Try.prog 10 #[.int .u16 t, .agg #[.slice x.p1.a x.p1.n x.p1.c, .slice x.p2.a x.p2.n x.p2.c, .slice x.p3.a x.p3.n x.p3.c, .slice x.p4.a x.p4.n x.p4.c]] W (fun e w' => ∃ (s : Sl), e = .returned (.tuple #[.slice s.a s.n s.c, .int .i64 C]) ∧ Hid (s.n ≤ s.c ∧ s.c ≤ 9223372036854775807 ∧ (s.a = none → s.c = 0) ∧ (C = 0 → s.n = WD.length ∧ Rd w' s.a WD) ∧ (C ≠ 0 → s = ⟨none, 0, 0⟩) ∧ Below W.heap.size W w'))) := KB2
    have HKC : Hid (∀ W, DRd W x d → Calls Try.prog 13 #[.int .u16 t, .agg #[.slice x.p1.a x.p1.n x.p1.c, .slice x.p2.a x.p2.n x.p2.c, .slice x.p3.a x.p3.n x.p3.c, .slice x.p4.a x.p4.n x.p4.c]] W fun e w' => e = .returned (.int .i64 C) ∧ Hid (Below W.heap.size W w')) := KC2
    clear KB KC KB2 KC2 hsm hs
    by_cases hgt : (2000 : Int) < (len : Int)
    · go_wp2_with fail
      go_ret
      exact ⟨rfl, HS3.out.bel⟩
    · go_upto_region 4 with fail
      have c0 : W3.cell? ⟨b, 0, none⟩ = some (.slice x.p1.a x.p1.n x.p1.c) := HS3.out.blk.box.1
      have c1 : W3.cell? ⟨b, 1, none⟩ = some (.slice x.p2.a x.p2.n x.p2.c) := HS3.out.blk.box.2.1
      have c2 : W3.cell? ⟨b, 2, none⟩ = some (.slice x.p3.a x.p3.n x.p3.c) := HS3.out.blk.box.2.2.1
      have c3 : W3.cell? ⟨b, 3, none⟩ = some (.slice x.p4.a x.p4.n x.p4.c) := HS3.out.blk.box.2.2.2.1
      have hbl := HS3.out.blk.lt
      go_wp2_with fail
      refine (HKB.out _ HS3.out.rd).mono ?_
      rintro e W4 ⟨s, rfl, H4⟩
      have HS4 : Hid (BS w W4 b x d a zs) := HS3.out.go H4.out.2.2.2.2.2
      clear HS3 HKB c0 c1 c2 c3 hbl
      have c0 : W4.cell? ⟨b, 0, none⟩ = some (.slice x.p1.a x.p1.n x.p1.c) := HS4.out.blk.box.1
      have c1 : W4.cell? ⟨b, 1, none⟩ = some (.slice x.p2.a x.p2.n x.p2.c) := HS4.out.blk.box.2.1
      have c2 : W4.cell? ⟨b, 2, none⟩ = some (.slice x.p3.a x.p3.n x.p3.c) := HS4.out.blk.box.2.2.1
      have c3 : W4.cell? ⟨b, 3, none⟩ = some (.slice x.p4.a x.p4.n x.p4.c) := HS4.out.blk.box.2.2.2.1
      have hbl := HS4.out.blk.lt
      go_wp2_with fail
      refine (HKC.out _ HS4.out.rd).mono ?_
      rintro e W5 ⟨rfl, H5⟩
      have HS5 : Hid (BS w W5 b x d a zs) := HS4.out.go H5.out
      have HW5 : Hid (C = 0 → s.n = WD.length ∧ Rd W5 s.a WD) := fun hc => ⟨(H4.out.2.2.2.1 hc).1, (H4.out.2.2.2.1 hc).2.below H5.out⟩
      have HV5 : Hid (s.n ≤ s.c ∧ s.c ≤ 9223372036854775807 ∧ (s.a = none → s.c = 0)) := ⟨H4.out.1, H4.out.2.1, H4.out.2.2.1⟩
      clear HS4 H4 H5 HKC c0 c1 c2 c3 hbl
      by_cases hC : C = 0
      · have hCb : (C == 0) = true := by simp [hC]
        have K8 : Hid (Calls Try.prog 27 #[.int .u16 t, .slice s.a s.n s.c] W5 (RdP (d, 0) W5)) := KRW.out hC W5 s (HW5.out hC).1 (HW5.out hC).2 HV5.out.1 HV5.out.2.1 HV5.out.2.2
        clear HW5 HV5 KRW
        have HC0 : Hid (C = 0) := hC
        subst hC
        go_wp2_with fail
        refine K8.out.mono ?_
        rintro e W6 ⟨z, rfl, H6⟩
        clear K8
        have hnz := new_below W6 (.cells #[.slice z.p1.a z.p1.n z.p1.c, .slice z.p2.a z.p2.n z.p2.c, .slice z.p3.a z.p3.n z.p3.c, .slice z.p4.a z.p4.n z.p4.c] 29)
        have HS7 : Hid (BS w (W6.alloc (.cells #[.slice z.p1.a z.p1.n z.p1.c, .slice z.p2.a z.p2.n z.p2.c, .slice z.p3.a z.p3.n z.p3.c, .slice z.p4.a z.p4.n z.p4.c] 29)) b x d a zs ∧ DBlk (W6.alloc (.cells #[.slice z.p1.a z.p1.n z.p1.c, .slice z.p2.a z.p2.n z.p2.c, .slice z.p3.a z.p3.n z.p3.c, .slice z.p4.a z.p4.n z.p4.c] 29)) W6.heap.size z ∧ DRd (W6.alloc (.cells #[.slice z.p1.a z.p1.n z.p1.c, .slice z.p2.a z.p2.n z.p2.c, .slice z.p3.a z.p3.n z.p3.c, .slice z.p4.a z.p4.n z.p4.c] 29)) z d) := ⟨(HS5.out.go H6.out.2).go hnz, heap_alloc_new _ _, H6.out.1.rd.below hnz⟩
        clear hnz H6 HS5
        go_upto_region 9 with fail
        generalize W6.alloc (.cells #[.slice z.p1.a z.p1.n z.p1.c, .slice z.p2.a z.p2.n z.p2.c, .slice z.p3.a z.p3.n z.p3.c, .slice z.p4.a z.p4.n z.p4.c] 29) = W7 at *
        generalize W6.heap.size = D7 at *
        have c0 : W7.cell? ⟨b, 0, none⟩ = some (.slice x.p1.a x.p1.n x.p1.c) := HS7.out.1.blk.box.1
        have c1 : W7.cell? ⟨b, 1, none⟩ = some (.slice x.p2.a x.p2.n x.p2.c) := HS7.out.1.blk.box.2.1
        have c2 : W7.cell? ⟨b, 2, none⟩ = some (.slice x.p3.a x.p3.n x.p3.c) := HS7.out.1.blk.box.2.2.1
        have c3 : W7.cell? ⟨b, 3, none⟩ = some (.slice x.p4.a x.p4.n x.p4.c) := HS7.out.1.blk.box.2.2.2.1
        have k0 : W7.cell? ⟨D7, 0, none⟩ = some (.slice z.p1.a z.p1.n z.p1.c) := HS7.out.2.1.box.1
        have k1 : W7.cell? ⟨D7, 1, none⟩ = some (.slice z.p2.a z.p2.n z.p2.c) := HS7.out.2.1.box.2.1
        have k2 : W7.cell? ⟨D7, 2, none⟩ = some (.slice z.p3.a z.p3.n z.p3.c) := HS7.out.2.1.box.2.2.1
        have k3 : W7.cell? ⟨D7, 3, none⟩ = some (.slice z.p4.a z.p4.n z.p4.c) := HS7.out.2.1.box.2.2.2.1
        have hbl := HS7.out.1.blk.lt
        have hDl7 := HS7.out.2.1.lt
        go_wp2_with fail
        refine (KS.out _ z HS7.out.2.2 HS7.out.1.rd).mono ?_
        rintro e W8 ⟨rfl, H8⟩
        have HSn : Hid (BS w W8 b x d a zs) := HS7.out.1.go H8.out
        clear KS HS7 H8 c0 c1 c2 c3 k0 k1 k2 k3 hbl hDl7
        go_upto_region 11 with fail
        have K11 : Hid (Calls Try.prog 27 #[.int .u16 t, .slice a len cap] W8 (RdP (rd, rc) W8)) := KR.out _ HSn.out.bs
        clear KR
        go_wp2_with fail
        refine K11.out.mono ?_
        rintro e V2 ⟨y, rfl, G2⟩
        clear K11
        have hny := new_below V2 (.cells #[.slice y.p1.a y.p1.n y.p1.c, .slice y.p2.a y.p2.n y.p2.c, .slice y.p3.a y.p3.n y.p3.c, .slice y.p4.a y.p4.n y.p4.c] 29)
        have GS3 : Hid (BS w (V2.alloc (.cells #[.slice y.p1.a y.p1.n y.p1.c, .slice y.p2.a y.p2.n y.p2.c, .slice y.p3.a y.p3.n y.p3.c, .slice y.p4.a y.p4.n y.p4.c] 29)) b x d a zs ∧ DBlk (V2.alloc (.cells #[.slice y.p1.a y.p1.n y.p1.c, .slice y.p2.a y.p2.n y.p2.c, .slice y.p3.a y.p3.n y.p3.c, .slice y.p4.a y.p4.n y.p4.c] 29)) V2.heap.size y ∧ DRd (V2.alloc (.cells #[.slice y.p1.a y.p1.n y.p1.c, .slice y.p2.a y.p2.n y.p2.c, .slice y.p3.a y.p3.n y.p3.c, .slice y.p4.a y.p4.n y.p4.c] 29)) y rd) := ⟨(HSn.out.go G2.out.2).go hny, heap_alloc_new _ _, G2.out.1.rd.below hny⟩
        clear hny G2 HSn
        by_cases hrc : rc = 0
        · have hrc' : (rc != 0) = false := by simp [hrc]
          have KBB := HBB.out hrc
          have KBH : Hid (∀ W y, DRd W y rd → Calls Try.prog 10 #[.int .u16 t, .agg #[.slice y.p1.a y.p1.n y.p1.c, .slice y.p2.a y.p2.n y.p2.c, .slice y.p3.a y.p3.n y.p3.c, .slice y.p4.a y.p4.n y.p4.c]] W (fun e w' => ∃ (s : Sl), e = .returned (.tuple #[.slice s.a s.n s.c, .int .i64 0]) ∧ Hid (s.n = len ∧ Rd w' s.a zs ∧ Below W.heap.size W w'))) := KBB
          clear HBB HRR KBB
          have Hrc : Hid (rc = 0) := hrc
          clear hrc
          go_upto_region 12 with fail
          generalize V2.alloc (.cells #[.slice y.p1.a y.p1.n y.p1.c, .slice y.p2.a y.p2.n y.p2.c, .slice y.p3.a y.p3.n y.p3.c, .slice y.p4.a y.p4.n y.p4.c] 29) = V3 at *
          generalize V2.heap.size = D at *
          have e0 : V3.cell? ⟨D, 0, none⟩ = some (.slice y.p1.a y.p1.n y.p1.c) := GS3.out.2.1.box.1
          have e1 : V3.cell? ⟨D, 1, none⟩ = some (.slice y.p2.a y.p2.n y.p2.c) := GS3.out.2.1.box.2.1
          have e2 : V3.cell? ⟨D, 2, none⟩ = some (.slice y.p3.a y.p3.n y.p3.c) := GS3.out.2.1.box.2.2.1
          have e3 : V3.cell? ⟨D, 3, none⟩ = some (.slice y.p4.a y.p4.n y.p4.c) := GS3.out.2.1.box.2.2.2.1
          have hDl := GS3.out.2.1.lt
          go_wp2_with fail
          refine (KBH.out _ y GS3.out.2.2).mono ?_
          rintro e V4 ⟨s4, rfl, G4⟩
          have GS4 : Hid (BS w V4 b x d a zs) := GS3.out.1.go G4.out.2.2
          have K12 : Hid (Calls Try.prog 12 #[.slice s4.a s4.n s4.c, .slice a len cap] V4 fun e w' => e = .returned (.bool true) ∧ w' = V4) := KSB.out V4 s4 G4.out.1 G4.out.2.1 GS4.out.bs
          clear KSB KBH e0 e1 e2 e3
          go_wp2_with fail
          refine K12.out.mono ?_
          rintro e V5 ⟨rfl, rfl⟩
          go_wp2_with fail
          go_ret
          exact ⟨rfl, GS4.out.bel⟩
        · have hrc' : (rc != 0) = true := by simp [hrc]
          rcases HRR.out hrc with h8 | h8
          · have HBS : Hid (BS w (V2.alloc (.cells #[.slice y.p1.a y.p1.n y.p1.c, .slice y.p2.a y.p2.n y.p2.c, .slice y.p3.a y.p3.n y.p3.c, .slice y.p4.a y.p4.n y.p4.c] 29)) b x d a zs) := GS3.out.1
            subst h8
            clear HRR HBB hrc GS3
            go_wp2_with fail
            go_ret
            exact ⟨rfl, HBS.out.bel⟩
          · have HBS : Hid (BS w (V2.alloc (.cells #[.slice y.p1.a y.p1.n y.p1.c, .slice y.p2.a y.p2.n y.p2.c, .slice y.p3.a y.p3.n y.p3.c, .slice y.p4.a y.p4.n y.p4.c] 29)) b x d a zs) := GS3.out.1
            subst h8
            clear HRR HBB hrc GS3
            go_wp2_with fail
            go_ret
            exact ⟨rfl, HBS.out.bel⟩
      · have hCb : (C == 0) = false := by simp [hC]
        have HSn : Hid (BS w W5 b x d a zs) := HS5.out
        clear HS5 HW5 HV5 KRW KS
        go_upto_region 11 with fail
        have K11 : Hid (Calls Try.prog 27 #[.int .u16 t, .slice a len cap] W5 (RdP (rd, rc) W5)) := KR.out _ HSn.out.bs
        clear KR
        go_wp2_with fail
        refine K11.out.mono ?_
        rintro e V2 ⟨y, rfl, G2⟩
        clear K11
        have hny := new_below V2 (.cells #[.slice y.p1.a y.p1.n y.p1.c, .slice y.p2.a y.p2.n y.p2.c, .slice y.p3.a y.p3.n y.p3.c, .slice y.p4.a y.p4.n y.p4.c] 29)
        have GS3 : Hid (BS w (V2.alloc (.cells #[.slice y.p1.a y.p1.n y.p1.c, .slice y.p2.a y.p2.n y.p2.c, .slice y.p3.a y.p3.n y.p3.c, .slice y.p4.a y.p4.n y.p4.c] 29)) b x d a zs ∧ DBlk (V2.alloc (.cells #[.slice y.p1.a y.p1.n y.p1.c, .slice y.p2.a y.p2.n y.p2.c, .slice y.p3.a y.p3.n y.p3.c, .slice y.p4.a y.p4.n y.p4.c] 29)) V2.heap.size y ∧ DRd (V2.alloc (.cells #[.slice y.p1.a y.p1.n y.p1.c, .slice y.p2.a y.p2.n y.p2.c, .slice y.p3.a y.p3.n y.p3.c, .slice y.p4.a y.p4.n y.p4.c] 29)) y rd) := ⟨(HSn.out.go G2.out.2).go hny, heap_alloc_new _ _, G2.out.1.rd.below hny⟩
        clear hny G2 HSn
        by_cases hrc : rc = 0
        · have hrc' : (rc != 0) = false := by simp [hrc]
          have KBB := HBB.out hrc
          have KBH : Hid (∀ W y, DRd W y rd → Calls Try.prog 10 #[.int .u16 t, .agg #[.slice y.p1.a y.p1.n y.p1.c, .slice y.p2.a y.p2.n y.p2.c, .slice y.p3.a y.p3.n y.p3.c, .slice y.p4.a y.p4.n y.p4.c]] W (fun e w' => ∃ (s : Sl), e = .returned (.tuple #[.slice s.a s.n s.c, .int .i64 0]) ∧ Hid (s.n = len ∧ Rd w' s.a zs ∧ Below W.heap.size W w'))) := KBB
          clear HBB HRR KBB
          have Hrc : Hid (rc = 0) := hrc
          clear hrc
          go_upto_region 12 with fail
          generalize V2.alloc (.cells #[.slice y.p1.a y.p1.n y.p1.c, .slice y.p2.a y.p2.n y.p2.c, .slice y.p3.a y.p3.n y.p3.c, .slice y.p4.a y.p4.n y.p4.c] 29) = V3 at *
          generalize V2.heap.size = D at *
          have e0 : V3.cell? ⟨D, 0, none⟩ = some (.slice y.p1.a y.p1.n y.p1.c) := GS3.out.2.1.box.1
          have e1 : V3.cell? ⟨D, 1, none⟩ = some (.slice y.p2.a y.p2.n y.p2.c) := GS3.out.2.1.box.2.1
          have e2 : V3.cell? ⟨D, 2, none⟩ = some (.slice y.p3.a y.p3.n y.p3.c) := GS3.out.2.1.box.2.2.1
          have e3 : V3.cell? ⟨D, 3, none⟩ = some (.slice y.p4.a y.p4.n y.p4.c) := GS3.out.2.1.box.2.2.2.1
          have hDl := GS3.out.2.1.lt
          go_wp2_with fail
          refine (KBH.out _ y GS3.out.2.2).mono ?_
          rintro e V4 ⟨s4, rfl, G4⟩
          have GS4 : Hid (BS w V4 b x d a zs) := GS3.out.1.go G4.out.2.2
          have K12 : Hid (Calls Try.prog 12 #[.slice s4.a s4.n s4.c, .slice a len cap] V4 fun e w' => e = .returned (.bool true) ∧ w' = V4) := KSB.out V4 s4 G4.out.1 G4.out.2.1 GS4.out.bs
          clear KSB KBH e0 e1 e2 e3
          go_wp2_with fail
          refine K12.out.mono ?_
          rintro e V5 ⟨rfl, rfl⟩
          go_wp2_with fail
          go_ret
          exact ⟨rfl, GS4.out.bel⟩
        · have hrc' : (rc != 0) = true := by simp [hrc]
          rcases HRR.out hrc with h8 | h8
          · have HBS : Hid (BS w (V2.alloc (.cells #[.slice y.p1.a y.p1.n y.p1.c, .slice y.p2.a y.p2.n y.p2.c, .slice y.p3.a y.p3.n y.p3.c, .slice y.p4.a y.p4.n y.p4.c] 29)) b x d a zs) := GS3.out.1
            subst h8
            clear HRR HBB hrc GS3
            go_wp2_with fail
            go_ret
            exact ⟨rfl, HBS.out.bel⟩
          · have HBS : Hid (BS w (V2.alloc (.cells #[.slice y.p1.a y.p1.n y.p1.c, .slice y.p2.a y.p2.n y.p2.c, .slice y.p3.a y.p3.n y.p3.c, .slice y.p4.a y.p4.n y.p4.c] 29)) b x d a zs) := GS3.out.1
            subst h8
            clear HRR HBB hrc GS3
            go_wp2_with fail
            go_ret
            exact ⟨rfl, HBS.out.bel⟩
end Go.Proofs.Ytdeoembjfdbbkaa
/- The document's own answer: what data bytes may be, as far as Read needs it. -/
namespace Go.Proofs.Ytdeoembjfdbbkaa
open Go.ChangeShapes Go.WideShapes Go.ChangeAt Go.RowKit
set_option linter.unusedVariables false
set_option linter.unusedSimpArgs false

/-- What a guess tells: nothing, where the program reads nothing either; or data, which are the program's where it reads all. -/
def GQ (p : Dat × Option Nat) (len : Nat) (w : World) (e : Ending) (w' : World) : Prop :=
  (∃ x : DA, e = .returned (.tuple #[.agg #[.slice x.p1.a x.p1.n x.p1.c, .slice x.p2.a x.p2.n x.p2.c, .slice x.p3.a x.p3.n x.p3.c, .slice x.p4.a x.p4.n x.p4.c], .bool false]) ∧ Hid (Below w.heap.size w w' ∧ p.2 ≠ some len)) ∨
  (∃ (x : DA) (d : Dat), e = .returned (.tuple #[.agg #[.slice x.p1.a x.p1.n x.p1.c, .slice x.p2.a x.p2.n x.p2.c, .slice x.p3.a x.p3.n x.p3.c, .slice x.p4.a x.p4.n x.p4.c], .bool true]) ∧ Hid (DOwn w.heap.size w' x d ∧ Bd d ∧ Below w.heap.size w w' ∧ (p.2 = some len → d = p.1) ∧ ∀ n ∈ d.ns, nck n = 0))
/-- A reader, data in the making, and what they were laid upon. -/
structure GS (g D : Nat) (a : Option Addr) (len cap : Nat) (zs : List Int) (Wb W : World) (st : Option Nat) (x : DA) (d : Dat) : Prop where
  rd : GRd g D a len cap zs st x W W
  own : DOwn Wb.heap.size W x d
  kp : Kp g D Wb W
theorem GS.new {g D : Nat} {a : Option Addr} {len cap : Nat} {zs : List Int} {Wb : World} {st : Option Nat} (h : GRd g D a len cap zs st nilDA Wb Wb) : GS g D a len cap zs Wb Wb st nilDA nilD := ⟨h, nil_down _ _, Kp.refl _ _ _⟩
theorem DOwn.over {g D : Nat} {Wb W W' : World} {x : DA} {d : Dat} (h : DOwn Wb.heap.size W x d) (hk : Kp g D Wb W) (hg : g < Wb.heap.size ∧ D < Wb.heap.size) (hk' : Kp g D W W') : DOwn Wb.heap.size W' x d :=
  h.keep fun j h1 h2 => hk'.block j h2 (by omega) (by omega)
/-- Numbers were read. -/
theorem GS.nums {g D : Nat} {a : Option Addr} {len cap : Nat} {zs : List Int} {Wb W W' : World} {st st' : Option Nat} {x : DA} {d : Dat} {s : Sl} {us : List Nat} (h : GS g D a len cap zs Wb W st x d) (hlt : g < Wb.heap.size ∧ D < Wb.heap.size) (h' : GRd g D a len cap zs st' ⟨x.p1, s, x.p3, x.p4⟩ W W') (ho : UOwn W.heap.size W' s us) : GS g D a len cap zs Wb W' st' ⟨x.p1, s, x.p3, x.p4⟩ ⟨d.ns, us, d.ts, d.raw⟩ := by
  have hd := h.own.over h.kp hlt h'.k
  exact ⟨h'.rebase, ⟨hd.1, ho.mono h.kp.size, hd.2.2.1, hd.2.2.2⟩, h.kp.trans h'.k⟩
theorem GS.names {g D : Nat} {a : Option Addr} {len cap : Nat} {zs : List Int} {Wb W W' : World} {st st' : Option Nat} {x : DA} {d : Dat} {s : Sl} {ns : List (List ByteArray)} (h : GS g D a len cap zs Wb W st x d) (hlt : g < Wb.heap.size ∧ D < Wb.heap.size) (h' : GRd g D a len cap zs st' ⟨s, x.p2, x.p3, x.p4⟩ W W') (ho : OwnN W.heap.size W' (.slice s.a s.n s.c) ns) : GS g D a len cap zs Wb W' st' ⟨s, x.p2, x.p3, x.p4⟩ ⟨ns, d.us, d.ts, d.raw⟩ := by
  have hd := h.own.over h.kp hlt h'.k
  exact ⟨h'.rebase, ⟨ho.mono h.kp.size, hd.2.1, hd.2.2.1, hd.2.2.2⟩, h.kp.trans h'.k⟩
theorem GS.texts {g D : Nat} {a : Option Addr} {len cap : Nat} {zs : List Int} {Wb W W' : World} {st st' : Option Nat} {x : DA} {d : Dat} {s : Sl} {ts : List ByteArray} (h : GS g D a len cap zs Wb W st x d) (hlt : g < Wb.heap.size ∧ D < Wb.heap.size) (h' : GRd g D a len cap zs st' ⟨x.p1, x.p2, s, x.p4⟩ W W') (ho : Own1 W.heap.size W' s ts) : GS g D a len cap zs Wb W' st' ⟨x.p1, x.p2, s, x.p4⟩ ⟨d.ns, d.us, ts, d.raw⟩ := by
  have hd := h.own.over h.kp hlt h'.k
  exact ⟨h'.rebase, ⟨hd.1, hd.2.1, ho.mono h.kp.size, hd.2.2.2⟩, h.kp.trans h'.k⟩
/-- The next name, as the program reads it. -/
theorem gName_pnm {zs : List Int} {p q : Nat} {o : List ByteArray} (h : gName zs p = some (o, q)) : pnm1 zs zs.length (some p) = (o, some q) := by
  obtain ⟨g1, _, _, g4⟩ := gName_le h
  simp only [pnm1, pos, g4, jm, if_true]
  rw [if_pos ⟨by omega, by omega⟩]
  simp
theorem gName_none {zs : List Int} (st : Option Nat) (h : ∀ p, st = some p → gName zs p = none) : (pnm1 zs zs.length st).2 = none := by
  cases st with
  | none => rfl
  | some p =>
    have h1 := h p rfl
    have he : (nread zs (p : Int)).2.2 ≠ 0 := by
      by_cases hp : p < zs.length
      · rw [gName_no hp h1]; decide
      · unfold nread
        rw [if_pos (.inr (by omega))]; decide
    show jm zs.length (some p) (if (nread zs (p : Int)).2.2 = 0 then (nread zs (p : Int)).2.1 else -1) = none
    rw [if_neg he]
    rfl
theorem pread_nm (nu wd : Nat) (zs : List Int) (len : Nat) : pread ⟨1, 0, nu, wd, 0, 0, 0, 0⟩ zs len = (⟨[(pnm1 zs len (pnus zs len (some 0) wd nu).2).1], (pnus zs len (some 0) wd nu).1, [], []⟩, (pnm1 zs len (pnus zs len (some 0) wd nu).2).2) := by
  simp [pread, pnms, ptxs]
theorem pread_soa (zs : List Int) (len : Nat) : pread ⟨2, 2, 5, 4, 0, 0, 0, 0⟩ zs len = (⟨(pnms zs len (some 0) 2).1, (pnus zs len (pnms zs len (some 0) 2).2 4 5).1, [], []⟩, (pnus zs len (pnms zs len (some 0) 2).2 4 5).2) := by
  simp [pread, ptxs, pnms]
theorem pread_txt (zs : List Int) (len : Nat) : pread ⟨0, 0, 0, 0, -1, 0, 0, 0⟩ zs len = (⟨[], [], (ptxF zs len (len + 1) (some 0)).1, []⟩, (ptxF zs len (len + 1) (some 0)).2) := by
  simp [pread, ptxs, pnms, pnus]
theorem pread_caa (zs : List Int) (len : Nat) : pread ⟨0, 0, 1, 1, 2, 1, 1, 0⟩ zs len = (⟨[], (pnus zs len (some 0) 1 1).1, (ptx2 zs len (pnus zs len (some 0) 1 1).2).1, []⟩, (ptx2 zs len (pnus zs len (some 0) 1 1).2).2) := by
  simp [pread, ptxs, pnms]
theorem pread_raw (nr : Int) (hnr : nr ≠ 0) (zs : List Int) (len : Nat) (hl : zs.length = len) : pread ⟨0, 0, 0, 0, 0, 0, 0, nr⟩ zs len = (⟨[], [], [], zs⟩, some len) := by
  have h := tk_all zs len hl
  have hf : lft len (some 0) = (len : Int) := by simp [lft]
  simp [pread, ptxs, pnms, pnus, hnr, hf, h.1, h.2]
theorem pnu_le (zs : List Int) (hb : ∀ z ∈ zs, 0 ≤ z ∧ z ≤ 255) (st : Option Nat) (wd : Nat) (hw : wd ≤ 4) : pnu zs st wd ≤ 4294967295 := (pnu_bd zs hb st wd hw).1
theorem pnus_succ (zs : List Int) (len : Nat) (st : Option Nat) (wd k : Nat) : pnus zs len st wd (k + 1) = ((pnus zs len st wd k).1 ++ [pnu zs (pnus zs len st wd k).2 wd], mv len (pnus zs len st wd k).2 (wd : Int)) := rfl
/-- A number of the document's reader, beside data in the making. -/
theorem gnum (g D : Nat) (a : Option Addr) (len cap : Nat) (zs : List Int) (st : Option Nat) (x : DA) (Wb V : World) (wd : Nat) (hw1 : 1 ≤ wd) (hw : wd ≤ 4) (h : GRd g D a len cap zs st x Wb V) :
    Calls Try.prog 78 #[.pointer (some ⟨g, 0, none⟩), .int .i64 (wd : Int)] V fun e w' => e = .returned (.int .u64 ((pnu zs st wd : Nat) : Int)) ∧ Hid (GRd g D a len cap zs (mv len st (wd : Int)) x Wb w' ∧ V.grownBy w' (some g)) := by
  have := refnum_any g a len cap zs st wd hw hw1 V h.m h.rd h.l h.c.1 (by have := h.b; omega) h.nil trivial
  rw [← (pnu_bd zs h.r.2 st wd hw).2] at this
  refine Calls.mono this ?_
  rintro e w' ⟨rfl, H⟩
  exact ⟨rfl, h.mv H.out.2 H.out.1, H.out.2⟩
theorem gtake (g D : Nat) (a : Option Addr) (len cap : Nat) (zs : List Int) (st : Option Nat) (x : DA) (Wb V : World) (n : Int) (h : GRd g D a len cap zs st x Wb V) :
    Calls Try.prog 79 #[.pointer (some ⟨g, 0, none⟩), .int .i64 n] V fun e w' => ∃ s : Sl, e = .returned (.slice s.a s.n s.c) ∧ Hid (BRd w' s (tk zs st n) ∧ GRd g D a len cap zs (mv len st n) x Wb w' ∧ V.grownBy w' (some g)) := by
  refine Calls.mono (reftake_any g a len cap zs st n V h.m h.rd h.l h.c.1 (by have := h.b; omega) h.nil trivial) ?_
  rintro e w' ⟨v, ys, rfl, H⟩
  obtain ⟨q1, q2, q3, q4⟩ := H.out
  obtain ⟨ao, rfl, _⟩ := q1.addr
  exact ⟨⟨ao, _, _⟩, rfl, (show BOwn V.heap.size w' ⟨ao, (tk zs st n).length, ys.length⟩ (tk zs st n) from ⟨ys, q1, q2⟩).rd, h.mv q4 q3, q4⟩
theorem u32w (u : Nat) (h : u ≤ 4294967295) : IntKind.u32.wrap (u : Int) = (u : Int) := by rw [IntKind.wrap_u32]; omega
theorem i64w (u : Nat) (h : u ≤ 4294967295) : IntKind.i64.wrap (u : Int) = (u : Int) := by rw [IntKind.wrap_i64]; omega
/-- A data box is written, by which the answer is told. -/
theorem GB.tell {S R g D : Nat} {s : Shp} {w Wb W : World} (h : GB S R g D s w Wb) (k : Kp g D Wb W) (x : DA) : DBlk (set4 W R x) R x ∧ Below w.heap.size w (set4 W R x) := ⟨set4_blk (h.rblk k) x, h.store k _ _ _ _⟩
theorem GB.owned {S R g D : Nat} {s : Shp} {w Wb W : World} {x : DA} {d : Dat} (h : GB S R g D s w Wb) (hd : DOwn Wb.heap.size W x d) : DOwn w.heap.size (set4 W R x).drew x d := (hd.keep (fun j hj _ => (show (set4 W R x).heap[j]? = _ from set4_off W R x j (by have := h.rb.lt; omega)))).mono h.bel.size
theorem GB.data {S R g D : Nat} {s : Shp} {w Wb W : World} {x : DA} {d : Dat} (h : GB S R g D s w Wb) (hd : DOwn Wb.heap.size W x d) : DRd (set4 W R x) x d := (hd.keep (fun j hj _ => set4_off W R x j (by have := h.rb.lt; omega))).rd
end Go.Proofs.Ytdeoembjfdbbkaa
/- The document's own answer: what data bytes may be: a name. -/
namespace Go.Proofs.Ytdeoembjfdbbkaa
open Go.ChangeShapes Go.WideShapes Go.ChangeAt Go.RowKit
set_option linter.unusedVariables false
set_option linter.unusedSimpArgs false

set_option maxRecDepth 100000 in
set_option maxHeartbeats 8000000 in
theorem guess_nm (t : Nat) (ht : t ≠ 6) (nu wd : Nat) (hw : 0 < nu → 1 ≤ wd ∧ wd ≤ 4) (hnu : nu ≤ 100) (a : Option Addr) (len cap : Nat) (zs : List Int) (w : World) (hr : Rd w a zs) (hl : zs.length = len) (hc : len ≤ cap ∧ cap ≤ 9223372036854775807) (hb : len ≤ 1000000) (hnil : a = none → cap = 0) :
    Calls Try.prog 53 #[.int .u16 t, .agg #[.int .i64 1, .int .i64 nu, .int .i64 0, .int .i64 0, .int .i64 wd], .slice a len cap] w (GQ (pread ⟨1, 0, nu, wd, 0, 0, 0, 0⟩ zs len) len w) := by
  have q6 : ((t : Int) == 6) = false := by simp; omega
  have q6n : ((t : Int) != 6) = true := by simp; omega
  have HN : Hid (GB w.heap.size (w.heap.size + 1) (w.heap.size + 1 + 1 + 1) (w.heap.size + 1 + 1) ⟨1, nu, 0, 0, wd⟩ w ((((w.alloc (.cells #[.int .i64 1, .int .i64 nu, .int .i64 0, .int .i64 0, .int .i64 wd] 67)).alloc (.cells #[.slice none 0 0, .slice none 0 0, .slice none 0 0, .slice none 0 0] 29)).alloc (.cells #[.slice none 0 0, .slice none 0 0, .slice none 0 0, .slice none 0 0] 29)).alloc (.cells #[.slice a len cap, .int .i64 0, .bool false] 99)) ∧ GRd (w.heap.size + 1 + 1 + 1) (w.heap.size + 1 + 1) a len cap zs (some 0) nilDA ((((w.alloc (.cells #[.int .i64 1, .int .i64 nu, .int .i64 0, .int .i64 0, .int .i64 wd] 67)).alloc (.cells #[.slice none 0 0, .slice none 0 0, .slice none 0 0, .slice none 0 0] 29)).alloc (.cells #[.slice none 0 0, .slice none 0 0, .slice none 0 0, .slice none 0 0] 29)).alloc (.cells #[.slice a len cap, .int .i64 0, .bool false] 99)) ((((w.alloc (.cells #[.int .i64 1, .int .i64 nu, .int .i64 0, .int .i64 0, .int .i64 wd] 67)).alloc (.cells #[.slice none 0 0, .slice none 0 0, .slice none 0 0, .slice none 0 0] 29)).alloc (.cells #[.slice none 0 0, .slice none 0 0, .slice none 0 0, .slice none 0 0] 29)).alloc (.cells #[.slice a len cap, .int .i64 0, .bool false] 99))) := guess_new ⟨1, nu, 0, 0, wd⟩ a len cap zs w hr hl hc (by omega) hnil
  have HL : Hid (zs.length = len) := hl
  have HBY : Hid (∀ z ∈ zs, 0 ≤ z ∧ z ≤ 255) := hr.2
  have HW : Hid (0 < nu → 1 ≤ wd ∧ wd ≤ 4) := hw
  have HNU : Hid (nu ≤ 100) := hnu
  clear hw hnu
  have HPR : Hid (pread ⟨1, 0, nu, wd, 0, 0, 0, 0⟩ zs len = (⟨[(pnm1 zs len (pnus zs len (some 0) wd nu).2).1], (pnus zs len (some 0) wd nu).1, [], []⟩, (pnm1 zs len (pnus zs len (some 0) wd nu).2).2)) := pread_nm nu wd zs len
  have HUL : Hid ((pnus zs len (some 0) wd nu).1.length = nu) := pnus_len _ _ _ _ _
  generalize pread ⟨1, 0, nu, wd, 0, 0, 0, 0⟩ zs len = PR at *
  clear hr hl hc hnil ht
  go_enter Try.func53, Try.ntmps53
  go_upto_region 3 with fail
  generalize ((((w.alloc (.cells #[.int .i64 1, .int .i64 nu, .int .i64 0, .int .i64 0, .int .i64 wd] 67)).alloc (.cells #[.slice none 0 0, .slice none 0 0, .slice none 0 0, .slice none 0 0] 29)).alloc (.cells #[.slice none 0 0, .slice none 0 0, .slice none 0 0, .slice none 0 0] 29)).alloc (.cells #[.slice a len cap, .int .i64 0, .bool false] 99)) = Wb at *
  obtain ⟨g, hg⟩ : ∃ g, w.heap.size + 1 + 1 + 1 = g := ⟨_, rfl⟩
  obtain ⟨D, hD⟩ : ∃ D, w.heap.size + 1 + 1 = D := ⟨_, rfl⟩
  obtain ⟨R, hR⟩ : ∃ R, w.heap.size + 1 = R := ⟨_, rfl⟩
  obtain ⟨S, hS⟩ : ∃ S, w.heap.size = S := ⟨_, rfl⟩
  rw [hg, hD, hR] at HN
  rw [hg, hD, hR]
  have HS : Hid (w.heap.size = S) := hS
  rw [hS] at HN ⊢
  clear hg hD hR hS
  have HF : Hid (∀ V, Kp g D Wb V → V.cell? ⟨S, 0, none⟩ = some (.int .i64 1) ∧ V.cell? ⟨S, 1, none⟩ = some (.int .i64 nu) ∧ V.cell? ⟨S, 2, none⟩ = some (.int .i64 0) ∧ V.cell? ⟨S, 3, none⟩ = some (.int .i64 0) ∧ V.cell? ⟨S, 4, none⟩ = some (.int .i64 wd) ∧ S < V.heap.size) := fun V hV => HN.out.1.sbox hV
  have HLT : Hid (g < Wb.heap.size ∧ D < Wb.heap.size) := HN.out.2.lt
  have hSD : ¬ S = D := HN.out.1.ne.2.1
  have hSg : ¬ S = g := HN.out.1.ne.1
  have hgD : ¬ g = D := HN.out.2.ne
  have hRg : ¬ R = g := HN.out.1.ne.2.2.1
  have hRD : ¬ R = D := HN.out.1.ne.2.2.2.1
  have hDg : ¬ D = g := by omega
  have hDR : ¬ D = R := by omega
  have hgR : ¬ g = R := by omega
  have hSR : ¬ S = R := HN.out.1.ne.2.2.2.2
  have hRS : ¬ R = S := by omega
  have HG0 : Hid (GS g D a len cap zs Wb Wb (some 0) nilDA nilD) := GS.new HN.out.2
  have t0 := (HF.out Wb (Kp.refl _ _ _)).1
  have t1 := (HF.out Wb (Kp.refl _ _ _)).2.1
  have t2 := (HF.out Wb (Kp.refl _ _ _)).2.2.1
  have t3 := (HF.out Wb (Kp.refl _ _ _)).2.2.2.1
  have t4 := (HF.out Wb (Kp.refl _ _ _)).2.2.2.2.1
  have tS := (HF.out Wb (Kp.refl _ _ _)).2.2.2.2.2
  go_wp2_with fail
  clear t0 t1 t2 t3 t4 tS
  have hnub : nu ≤ 100 := HNU.out
  go_loopw [11] (fun i wr => ∃ k : Nat, k ≤ nu ∧ i = .int .i64 (k : Int) ∧ ∃ s2 : Sl, Hid (GRd g D a len cap zs (pnus zs len (some 0) wd k).2 ⟨⟨none, 0, 0⟩, s2, ⟨none, 0, 0⟩, ⟨none, 0, 0⟩⟩ Wb wr ∧ UOwn Wb.heap.size wr s2 (pnus zs len (some 0) wd k).1)) (fun i _ => nu - (intOf i).toNat)
  case atStart => exact ⟨0, Nat.zero_le _, rfl, ⟨none, 0, 0⟩, HG0.out.rd, nil_uown _ _⟩
  case round =>
    obtain ⟨k, hk, rfl, s2, HG⟩ := hrel
    have HKP : Hid (Kp g D Wb wr) := HG0.out.kp.trans HG.out.1.k
    have t0 := (HF.out wr HKP.out).1
    have t1 := (HF.out wr HKP.out).2.1
    have t2 := (HF.out wr HKP.out).2.2.1
    have t3 := (HF.out wr HKP.out).2.2.2.1
    have t4 := (HF.out wr HKP.out).2.2.2.2.1
    have tS := (HF.out wr HKP.out).2.2.2.2.2
    by_cases hlt : k < nu
    · have hlt' : (k : Int) < (nu : Int) := by omega
      have HSUC : Hid (pnus zs len (some 0) wd (k + 1) = ((pnus zs len (some 0) wd k).1 ++ [pnu zs (pnus zs len (some 0) wd k).2 wd], mv len (pnus zs len (some 0) wd k).2 ((wd : Nat) : Int))) := pnus_succ zs len (some 0) wd k
      have hk5 : (pnus zs len (some 0) wd k).1.length ≤ 1000 := by rw [pnus_len]; have := HNU.out; omega
      have hwd := HW.out (by omega)
      have hu := pnu_le zs HBY.out (pnus zs len (some 0) wd k).2 wd hwd.2
      have KN : Hid (∀ V, GRd g D a len cap zs (pnus zs len (some 0) wd k).2 ⟨⟨none, 0, 0⟩, s2, ⟨none, 0, 0⟩, ⟨none, 0, 0⟩⟩ Wb V → Calls Try.prog 78 #[.pointer (some ⟨g, 0, none⟩), .int .i64 (wd : Int)] V fun e w' => e = .returned (.int .u64 ((pnu zs (pnus zs len (some 0) wd k).2 wd : Nat) : Int)) ∧ Hid (GRd g D a len cap zs (mv len (pnus zs len (some 0) wd k).2 ((wd : Nat) : Int)) ⟨⟨none, 0, 0⟩, s2, ⟨none, 0, 0⟩, ⟨none, 0, 0⟩⟩ Wb w' ∧ V.grownBy w' (some g))) := fun V hV => gnum g D a len cap zs (pnus zs len (some 0) wd k).2 ⟨⟨none, 0, 0⟩, s2, ⟨none, 0, 0⟩, ⟨none, 0, 0⟩⟩ Wb V wd hwd.1 hwd.2 hV
      generalize hmv : mv len (pnus zs len (some 0) wd k).2 ((wd : Nat) : Int) = st1 at *
      generalize hpu : pnu zs (pnus zs len (some 0) wd k).2 wd = u at *
      generalize hus : (pnus zs len (some 0) wd k).1 = us at *
      generalize hst : (pnus zs len (some 0) wd k).2 = st at *
      clear hmv hpu hus hst hwd
      have hum := u32w u hu
      have d1 : wr.cell? ⟨D, 1, none⟩ = some (.slice s2.a s2.n s2.c) := HG.out.1.d.box.2.1
      have hDl := HG.out.1.d.lt
      go_wp2_with fail
      go_region_law (first
        | (refine st_nums rfl _ _ rfl Wb.heap.size s2 us rfl (H6.out.2.stays (new_below _ _)) ⟨W5.heap.size, 0, none⟩ rfl u (one_u _ _) hu hk5 (Nat.le_trans H6.out.1.k.size (by simp)) ?_; intro t' W7 H7 HG7; have H8 : Hid (GRd g D a len cap zs st1 ⟨⟨none, 0, 0⟩, s2, ⟨none, 0, 0⟩, ⟨none, 0, 0⟩⟩ Wb W7) := (H6.out.1.go (new_below _ _)).own HG7.out.1 HG7.out.2; have f1 : W7.cell? ⟨D, 1, none⟩ = some (.slice s2.a s2.n s2.c) := H8.out.d.box.2.1; have hf := H8.out.d.fz 1; have hD7 := H8.out.d.lt)
        | (go_simp; go_at_call 78; refine (KN.out _ (HG.out.1.go (Below.refl _ _).drew)).mono ?_; rintro e W5 ⟨rfl, H5⟩; have H6 : Hid (GRd g D a len cap zs st1 ⟨⟨none, 0, 0⟩, s2, ⟨none, 0, 0⟩, ⟨none, 0, 0⟩⟩ Wb W5 ∧ UOwn Wb.heap.size W5 s2 us) := ⟨H5.out.1, HG.out.2.keep (fun j h1 h2 => H5.out.2.block j h2 (fun e => by have := HG.out.1.lt; have := Option.some.inj e; omega))⟩; have hD5 : D < W5.heap.size := H6.out.1.d.lt; have e1 : W5.cell? ⟨D, 1, none⟩ = some (.slice s2.a s2.n s2.c) := H6.out.1.d.box.2.1; have e4 := (HF.out W5 (HG0.out.kp.trans H6.out.1.k)).2.2.2.2.1; have e5 := (HF.out W5 (HG0.out.kp.trans H6.out.1.k)).2.2.2.2.2))
      all_goals
        have H9 : Hid (GRd g D a len cap zs st1 ⟨⟨none, 0, 0⟩, t', ⟨none, 0, 0⟩, ⟨none, 0, 0⟩⟩ Wb (W7.setCell ⟨D, 1, none⟩ (.slice t'.a t'.n t'.c)) ∧ UOwn Wb.heap.size (W7.setCell ⟨D, 1, none⟩ (.slice t'.a t'.n t'.c)) t' (us ++ [u])) := ⟨H8.out.set 1 _ (H8.out.d.set1 t'), H7.out.keep (fun j h1 h2 => Below.heap_setCell _ _ _ j (by have := H8.out.lt; show j ≠ D; omega))⟩
        clear H8 H7 HG7 H6 H5 HG KN
        generalize (W7.setCell ⟨D, 1, none⟩ (.slice t'.a t'.n t'.c)) = W9 at *
        go_wp2_with fail
        exact ⟨⟨k + 1, by omega, by go_num, t', by rw [HSUC.out]; exact H9.out⟩, by simp [intOf]; omega⟩
    · have hge : ¬ (k : Int) < (nu : Int) := by omega
      have hkn : k = nu := by omega
      subst hkn
      have HGB : Hid (GS g D a len cap zs Wb wr (pnus zs len (some 0) wd k).2 ⟨⟨none, 0, 0⟩, s2, ⟨none, 0, 0⟩, ⟨none, 0, 0⟩⟩ ⟨[], (pnus zs len (some 0) wd k).1, [], []⟩) := HG0.out.nums HLT.out HG.out.1 HG.out.2
      clear HG
      generalize hP : pnus zs len (some 0) wd k = PU at *
      clear hP
      obtain ⟨us, st⟩ := PU
      simp only at HGB HPR HUL
      by_cases hno : ∀ p, st = some p → gName zs p = none
      · have HNE : Hid (PR.2 ≠ some len) := by
          show PR.2 ≠ some len
          rw [HPR.out, ← HL.out, gName_none st hno]
          simp
        have KN : Hid (Calls Try.prog 77 #[.pointer (some ⟨g, 0, none⟩), .pointer (some ⟨D, 0, none⟩)] wr fun e w' => e = .returned (.bool false) ∧ Hid (GRd g D a len cap zs st ⟨⟨none, 0, 0⟩, s2, ⟨none, 0, 0⟩, ⟨none, 0, 0⟩⟩ wr w')) := name_fail g D a len cap zs st ⟨⟨none, 0, 0⟩, s2, ⟨none, 0, 0⟩, ⟨none, 0, 0⟩⟩ wr wr HGB.out.rd hno
        clear hno
        go_wp2_with fail
        refine KN.out.mono ?_
        rintro e W3 ⟨rfl, H3⟩
        have HGF : Hid (GRd g D a len cap zs st ⟨⟨none, 0, 0⟩, s2, ⟨none, 0, 0⟩, ⟨none, 0, 0⟩⟩ wr W3 ∧ Kp g D Wb W3) := ⟨H3.out, HGB.out.kp.trans H3.out.k⟩
        clear H3 KN
        have d0 : W3.cell? ⟨D, 0, none⟩ = some (.slice none 0 0) := HGF.out.1.d.box.1
        have d1 : W3.cell? ⟨D, 1, none⟩ = some (.slice s2.a s2.n s2.c) := HGF.out.1.d.box.2.1
        have d2 : W3.cell? ⟨D, 2, none⟩ = some (.slice none 0 0) := HGF.out.1.d.box.2.2.1
        have d3 : W3.cell? ⟨D, 3, none⟩ = some (.slice none 0 0) := HGF.out.1.d.box.2.2.2.1
        have dl := HGF.out.1.d.lt
        have r0 : W3.cell? ⟨R, 0, none⟩ = some (.slice none 0 0) := (HN.out.1.rblk HGF.out.2).box.1
        have r1 : W3.cell? ⟨R, 1, none⟩ = some (.slice none 0 0) := (HN.out.1.rblk HGF.out.2).box.2.1
        have r2 : W3.cell? ⟨R, 2, none⟩ = some (.slice none 0 0) := (HN.out.1.rblk HGF.out.2).box.2.2.1
        have r3 : W3.cell? ⟨R, 3, none⟩ = some (.slice none 0 0) := (HN.out.1.rblk HGF.out.2).box.2.2.2.1
        have rz0 := (HN.out.1.rblk HGF.out.2).fz 0
        have rz1 := (HN.out.1.rblk HGF.out.2).fz 1
        have rz2 := (HN.out.1.rblk HGF.out.2).fz 2
        have rz3 := (HN.out.1.rblk HGF.out.2).fz 3
        have rl := (HN.out.1.rblk HGF.out.2).lt
        go_wp2_with fail
        have H8 : Hid (DBlk ((((W3.setCell ⟨R, 0, none⟩ (.slice none 0 0)).setCell ⟨R, 1, none⟩ (.slice s2.a s2.n s2.c)).setCell ⟨R, 2, none⟩ (.slice none 0 0)).setCell ⟨R, 3, none⟩ (.slice none 0 0)) R ⟨⟨none, 0, 0⟩, s2, ⟨none, 0, 0⟩, ⟨none, 0, 0⟩⟩ ∧ Below w.heap.size w ((((W3.setCell ⟨R, 0, none⟩ (.slice none 0 0)).setCell ⟨R, 1, none⟩ (.slice s2.a s2.n s2.c)).setCell ⟨R, 2, none⟩ (.slice none 0 0)).setCell ⟨R, 3, none⟩ (.slice none 0 0))) := HN.out.1.tell HGF.out.2 ⟨⟨none, 0, 0⟩, s2, ⟨none, 0, 0⟩, ⟨none, 0, 0⟩⟩
        generalize ((((W3.setCell ⟨R, 0, none⟩ (.slice none 0 0)).setCell ⟨R, 1, none⟩ (.slice s2.a s2.n s2.c)).setCell ⟨R, 2, none⟩ (.slice none 0 0)).setCell ⟨R, 3, none⟩ (.slice none 0 0)) = W88 at *
        have k0 := H8.out.1.box.1
        have k1 := H8.out.1.box.2.1
        have k2 := H8.out.1.box.2.2.1
        have k3 := H8.out.1.box.2.2.2.1
        simp only at k0 k1 k2 k3
        exact bodyPost_ret (v := .tuple #[.agg #[.slice none 0 0, .slice s2.a s2.n s2.c, .slice none 0 0, .slice none 0 0], .bool false]) (by simp [results, Try.results53, go_sem, k0, k1, k2, k3]) rfl (.inl ⟨⟨⟨none, 0, 0⟩, s2, ⟨none, 0, 0⟩, ⟨none, 0, 0⟩⟩, rfl, H8.out.2, HNE.out⟩)
      · obtain ⟨p, hp, hgn⟩ : ∃ p, st = some p ∧ ∃ r, gName zs p = some r := by
          cases st with
          | none => exact absurd (fun p hp => by cases hp) hno
          | some p =>
            refine ⟨p, rfl, ?_⟩
            cases hg : gName zs p with
            | none => exact absurd (fun q hq => by cases hq; exact hg) hno
            | some r => exact ⟨r, rfl⟩
        obtain ⟨⟨o, q⟩, hgn⟩ := hgn
        subst hp
        clear hno
        have HEQ : Hid (PR = (⟨[o], us, [], []⟩, some q)) := by
          show PR = _
          rw [HPR.out, ← HL.out, gName_pnm hgn]
        have HOK : Hid (nck o = 0) := (gName_le hgn).2.1
        have KN : Hid (Calls Try.prog 77 #[.pointer (some ⟨g, 0, none⟩), .pointer (some ⟨D, 0, none⟩)] wr fun e w' => e = .returned (.bool true) ∧ ∃ s : Sl, Hid (GRd g D a len cap zs (some q) ⟨s, s2, ⟨none, 0, 0⟩, ⟨none, 0, 0⟩⟩ wr w' ∧ OwnN wr.heap.size w' (.slice s.a s.n s.c) [o])) := name_yes g D a len cap p q zs [] o ⟨⟨none, 0, 0⟩, s2, ⟨none, 0, 0⟩, ⟨none, 0, 0⟩⟩ wr wr HGB.out.rd (OwnN.nil _ _) (by simp) hgn
        clear hgn HPR
        go_wp2_with fail
        refine KN.out.mono ?_
        rintro e W3 ⟨rfl, s1, H3⟩
        have HG3 : Hid (GS g D a len cap zs Wb W3 (some q) ⟨s1, s2, ⟨none, 0, 0⟩, ⟨none, 0, 0⟩⟩ ⟨[o], us, [], []⟩) := HGB.out.names HLT.out H3.out.1 H3.out.2
        clear H3 KN HGB t0 t1 t2 t3 t4 tS
        have t0 := (HF.out W3 HG3.out.kp).1
        have t1 := (HF.out W3 HG3.out.kp).2.1
        have t2 := (HF.out W3 HG3.out.kp).2.2.1
        have t3 := (HF.out W3 HG3.out.kp).2.2.2.1
        have t4 := (HF.out W3 HG3.out.kp).2.2.2.2.1
        have tS := (HF.out W3 HG3.out.kp).2.2.2.2.2
        go_wp2_with fail
        obtain ⟨wz, hz⟩ : ∃ z, z = W3 := ⟨_, rfl⟩
        subst hz
        go_loopw [] (fun wr => wr = wz) (fun _ => 0)
        case atStart => rfl
        case round =>
          have hwr := hrel
          subst hwr
          go_wp2_with fail
          have d0 : wr.cell? ⟨D, 0, none⟩ = some (.slice s1.a s1.n s1.c) := HG3.out.rd.d.box.1
          have d1 : wr.cell? ⟨D, 1, none⟩ = some (.slice s2.a s2.n s2.c) := HG3.out.rd.d.box.2.1
          have d2 : wr.cell? ⟨D, 2, none⟩ = some (.slice none 0 0) := HG3.out.rd.d.box.2.2.1
          have d3 : wr.cell? ⟨D, 3, none⟩ = some (.slice none 0 0) := HG3.out.rd.d.box.2.2.2.1
          have dl := HG3.out.rd.d.lt
          have eb : wr.cell? ⟨g, 2, none⟩ = some (.bool false) := HG3.out.rd.m.1.c2
          have r0 : wr.cell? ⟨R, 0, none⟩ = some (.slice none 0 0) := (HN.out.1.rblk HG3.out.kp).box.1
          have r1 : wr.cell? ⟨R, 1, none⟩ = some (.slice none 0 0) := (HN.out.1.rblk HG3.out.kp).box.2.1
          have r2 : wr.cell? ⟨R, 2, none⟩ = some (.slice none 0 0) := (HN.out.1.rblk HG3.out.kp).box.2.2.1
          have r3 : wr.cell? ⟨R, 3, none⟩ = some (.slice none 0 0) := (HN.out.1.rblk HG3.out.kp).box.2.2.2.1
          have rz0 := (HN.out.1.rblk HG3.out.kp).fz 0
          have rz1 := (HN.out.1.rblk HG3.out.kp).fz 1
          have rz2 := (HN.out.1.rblk HG3.out.kp).fz 2
          have rz3 := (HN.out.1.rblk HG3.out.kp).fz 3
          have rl := (HN.out.1.rblk HG3.out.kp).lt
          go_upto_region 22 with fail
          go_region_held3 (fun V => V.cell? ⟨D, 0, none⟩ = some (.slice s1.a s1.n s1.c) ∧ V.cell? ⟨D, 1, none⟩ = some (.slice s2.a s2.n s2.c) ∧ V.cell? ⟨D, 2, none⟩ = some (.slice none 0 0) ∧ V.cell? ⟨D, 3, none⟩ = some (.slice none 0 0) ∧ V.cell? ⟨g, 2, none⟩ = some (.bool false)) (exact ⟨by go_keep, by go_keep, by go_keep, by go_keep, by go_keep⟩) (fail)
          all_goals
            go_wp2_with fail
            have H8 : Hid (DBlk (((((wr.setCell ⟨R, 0, none⟩ (.slice s1.a s1.n s1.c)).setCell ⟨R, 1, none⟩ (.slice s2.a s2.n s2.c)).setCell ⟨R, 2, none⟩ (.slice none 0 0)).setCell ⟨R, 3, none⟩ (.slice none 0 0)).drew) R ⟨s1, s2, ⟨none, 0, 0⟩, ⟨none, 0, 0⟩⟩ ∧ Below w.heap.size w (((((wr.setCell ⟨R, 0, none⟩ (.slice s1.a s1.n s1.c)).setCell ⟨R, 1, none⟩ (.slice s2.a s2.n s2.c)).setCell ⟨R, 2, none⟩ (.slice none 0 0)).setCell ⟨R, 3, none⟩ (.slice none 0 0)).drew) ∧ DOwn w.heap.size (((((wr.setCell ⟨R, 0, none⟩ (.slice s1.a s1.n s1.c)).setCell ⟨R, 1, none⟩ (.slice s2.a s2.n s2.c)).setCell ⟨R, 2, none⟩ (.slice none 0 0)).setCell ⟨R, 3, none⟩ (.slice none 0 0)).drew) ⟨s1, s2, ⟨none, 0, 0⟩, ⟨none, 0, 0⟩⟩ ⟨[o], us, [], []⟩) := ⟨(GB.final (x := ⟨s1, s2, ⟨none, 0, 0⟩, ⟨none, 0, 0⟩⟩) (d := ⟨[o], us, [], []⟩) HN.out.1 HG3.out.kp HG3.out.own).1, (GB.final (x := ⟨s1, s2, ⟨none, 0, 0⟩, ⟨none, 0, 0⟩⟩) (d := ⟨[o], us, [], []⟩) HN.out.1 HG3.out.kp HG3.out.own).2.1, GB.owned (x := ⟨s1, s2, ⟨none, 0, 0⟩, ⟨none, 0, 0⟩⟩) (d := ⟨[o], us, [], []⟩) HN.out.1 HG3.out.own⟩
            generalize (((((wr.setCell ⟨R, 0, none⟩ (.slice s1.a s1.n s1.c)).setCell ⟨R, 1, none⟩ (.slice s2.a s2.n s2.c)).setCell ⟨R, 2, none⟩ (.slice none 0 0)).setCell ⟨R, 3, none⟩ (.slice none 0 0)).drew) = W88 at *
            have k0 := H8.out.1.box.1
            have k1 := H8.out.1.box.2.1
            have k2 := H8.out.1.box.2.2.1
            have k3 := H8.out.1.box.2.2.2.1
            simp only at k0 k1 k2 k3
            refine bodyPost_ret (v := .tuple #[.agg #[.slice s1.a s1.n s1.c, .slice s2.a s2.n s2.c, .slice none 0 0, .slice none 0 0], .bool true]) (by simp [results, Try.results53, go_sem, k0, k1, k2, k3]) rfl ?_
            exact .inr ⟨⟨s1, s2, ⟨none, 0, 0⟩, ⟨none, 0, 0⟩⟩, ⟨[o], us, [], []⟩, rfl, H8.out.2.2, ⟨by simp, by intro n hn; simp at hn; subst hn; have := (nck_small HOK.out).1; have := nsz_len n; omega, by have := HUL.out; have := HNU.out; simp only at *; omega, by simp [tsum], by simp⟩, H8.out.2.1, fun _ => by rw [HEQ.out], by intro n hn; simp at hn; subst hn; exact HOK.out⟩
end Go.Proofs.Ytdeoembjfdbbkaa
/- The document's own answer: what data bytes may be: two names. -/
namespace Go.Proofs.Ytdeoembjfdbbkaa
open Go.ChangeShapes Go.WideShapes Go.ChangeAt Go.RowKit
set_option linter.unusedVariables false
set_option linter.unusedSimpArgs false

set_option maxRecDepth 100000 in
set_option maxHeartbeats 8000000 in
theorem guess_soa (a : Option Addr) (len cap : Nat) (zs : List Int) (w : World) (hr : Rd w a zs) (hl : zs.length = len) (hc : len ≤ cap ∧ cap ≤ 9223372036854775807) (hb : len ≤ 1000000) (hnil : a = none → cap = 0) :
    Calls Try.prog 53 #[.int .u16 6, .agg #[.int .i64 2, .int .i64 5, .int .i64 0, .int .i64 0, .int .i64 4], .slice a len cap] w (GQ (pread ⟨2, 2, 5, 4, 0, 0, 0, 0⟩ zs len) len w) := by
  have HN : Hid (GB w.heap.size (w.heap.size + 1) (w.heap.size + 1 + 1 + 1) (w.heap.size + 1 + 1) ⟨2, 5, 0, 0, 4⟩ w ((((w.alloc (.cells #[.int .i64 2, .int .i64 5, .int .i64 0, .int .i64 0, .int .i64 4] 67)).alloc (.cells #[.slice none 0 0, .slice none 0 0, .slice none 0 0, .slice none 0 0] 29)).alloc (.cells #[.slice none 0 0, .slice none 0 0, .slice none 0 0, .slice none 0 0] 29)).alloc (.cells #[.slice a len cap, .int .i64 0, .bool false] 99)) ∧ GRd (w.heap.size + 1 + 1 + 1) (w.heap.size + 1 + 1) a len cap zs (some 0) nilDA ((((w.alloc (.cells #[.int .i64 2, .int .i64 5, .int .i64 0, .int .i64 0, .int .i64 4] 67)).alloc (.cells #[.slice none 0 0, .slice none 0 0, .slice none 0 0, .slice none 0 0] 29)).alloc (.cells #[.slice none 0 0, .slice none 0 0, .slice none 0 0, .slice none 0 0] 29)).alloc (.cells #[.slice a len cap, .int .i64 0, .bool false] 99)) ((((w.alloc (.cells #[.int .i64 2, .int .i64 5, .int .i64 0, .int .i64 0, .int .i64 4] 67)).alloc (.cells #[.slice none 0 0, .slice none 0 0, .slice none 0 0, .slice none 0 0] 29)).alloc (.cells #[.slice none 0 0, .slice none 0 0, .slice none 0 0, .slice none 0 0] 29)).alloc (.cells #[.slice a len cap, .int .i64 0, .bool false] 99))) := guess_new ⟨2, 5, 0, 0, 4⟩ a len cap zs w hr hl hc (by omega) hnil
  have HL : Hid (zs.length = len) := hl
  have HBY : Hid (∀ z ∈ zs, 0 ≤ z ∧ z ≤ 255) := hr.2
  have HW : Hid (0 < 5 → 1 ≤ 4 ∧ 4 ≤ 4) := fun _ => by omega
  have HNU : Hid (5 ≤ 100) := (show 5 ≤ 100 by omega)
  have HPR : Hid (pread ⟨2, 2, 5, 4, 0, 0, 0, 0⟩ zs len = (⟨(pnms zs len (some 0) 2).1, (pnus zs len (pnms zs len (some 0) 2).2 4 5).1, [], []⟩, (pnus zs len (pnms zs len (some 0) 2).2 4 5).2)) := pread_soa zs len
  have HNS : Hid (∀ k, pnms zs len (some 0) (k + 1) = ((pnms zs len (some 0) k).1 ++ [(pnm1 zs len (pnms zs len (some 0) k).2).1], (pnm1 zs len (pnms zs len (some 0) k).2).2)) := fun k => rfl
  have HFN : Hid ((pnms zs len (some 0) 2).2 = none → (pread ⟨2, 2, 5, 4, 0, 0, 0, 0⟩ zs len).2 ≠ some len) := by
    intro h
    rw [pread_soa, h]
    have : ∀ k, (pnus zs len none 4 k).2 = none := by
      intro k
      induction k with
      | zero => rfl
      | succ k ih => rw [pnus_succ, ih]; rfl
    rw [this]
    simp
  generalize pread ⟨2, 2, 5, 4, 0, 0, 0, 0⟩ zs len = PR at *
  clear hr hl hc hnil
  go_enter Try.func53, Try.ntmps53
  go_upto_region 3 with fail
  generalize ((((w.alloc (.cells #[.int .i64 2, .int .i64 5, .int .i64 0, .int .i64 0, .int .i64 4] 67)).alloc (.cells #[.slice none 0 0, .slice none 0 0, .slice none 0 0, .slice none 0 0] 29)).alloc (.cells #[.slice none 0 0, .slice none 0 0, .slice none 0 0, .slice none 0 0] 29)).alloc (.cells #[.slice a len cap, .int .i64 0, .bool false] 99)) = Wb at *
  obtain ⟨g, hg⟩ : ∃ g, w.heap.size + 1 + 1 + 1 = g := ⟨_, rfl⟩
  obtain ⟨D, hD⟩ : ∃ D, w.heap.size + 1 + 1 = D := ⟨_, rfl⟩
  obtain ⟨R, hR⟩ : ∃ R, w.heap.size + 1 = R := ⟨_, rfl⟩
  obtain ⟨S, hS⟩ : ∃ S, w.heap.size = S := ⟨_, rfl⟩
  rw [hg, hD, hR] at HN
  rw [hg, hD, hR]
  have HS : Hid (w.heap.size = S) := hS
  rw [hS] at HN ⊢
  clear hg hD hR hS
  have HF : Hid (∀ V, Kp g D Wb V → V.cell? ⟨S, 0, none⟩ = some (.int .i64 2) ∧ V.cell? ⟨S, 1, none⟩ = some (.int .i64 5) ∧ V.cell? ⟨S, 2, none⟩ = some (.int .i64 0) ∧ V.cell? ⟨S, 3, none⟩ = some (.int .i64 0) ∧ V.cell? ⟨S, 4, none⟩ = some (.int .i64 4) ∧ S < V.heap.size) := fun V hV => HN.out.1.sbox hV
  have HLT : Hid (g < Wb.heap.size ∧ D < Wb.heap.size) := HN.out.2.lt
  have hSD : ¬ S = D := HN.out.1.ne.2.1
  have hSg : ¬ S = g := HN.out.1.ne.1
  have hgD : ¬ g = D := HN.out.2.ne
  have hRg : ¬ R = g := HN.out.1.ne.2.2.1
  have hRD : ¬ R = D := HN.out.1.ne.2.2.2.1
  have hDg : ¬ D = g := by omega
  have hDR : ¬ D = R := by omega
  have hgR : ¬ g = R := by omega
  have hSR : ¬ S = R := HN.out.1.ne.2.2.2.2
  have hRS : ¬ R = S := by omega
  have HG0 : Hid (GS g D a len cap zs Wb Wb (some 0) nilDA nilD) := GS.new HN.out.2
  have t0 := (HF.out Wb (Kp.refl _ _ _)).1
  have t1 := (HF.out Wb (Kp.refl _ _ _)).2.1
  have t2 := (HF.out Wb (Kp.refl _ _ _)).2.2.1
  have t3 := (HF.out Wb (Kp.refl _ _ _)).2.2.2.1
  have t4 := (HF.out Wb (Kp.refl _ _ _)).2.2.2.2.1
  have tS := (HF.out Wb (Kp.refl _ _ _)).2.2.2.2.2
  go_wp2_with fail
  clear t0 t1 t2 t3 t4 tS
  go_loopw [10] (fun i wr => ∃ k : Nat, k ≤ 2 ∧ i = .int .i64 (k : Int) ∧ ∃ (tn : Sl) (p : Nat) (nss : List (List ByteArray)), Hid (GRd g D a len cap zs (some p) ⟨tn, ⟨none, 0, 0⟩, ⟨none, 0, 0⟩, ⟨none, 0, 0⟩⟩ Wb wr ∧ OwnN Wb.heap.size wr (.slice tn.a tn.n tn.c) nss ∧ pnms zs len (some 0) k = (nss, some p) ∧ ∀ n ∈ nss, nck n = 0)) (fun i _ => 2 - (intOf i).toNat)
  case atStart => exact ⟨0, Nat.zero_le _, rfl, ⟨none, 0, 0⟩, 0, [], HG0.out.rd, OwnN.nil _ _, rfl, by simp⟩
  case round =>
    obtain ⟨k, hk, rfl, tn, p, nss, HG⟩ := hrel
    have HKP : Hid (Kp g D Wb wr) := HG.out.1.k
    by_cases hlt : k < 2
    · have hlt' : (k : Int) < 2 := by omega
      have hnl : nss.length ≤ 5 := by have := pnms_len zs len (some 0) k; rw [HG.out.2.2.1] at this; simp only at this; omega
      cases hgn : gName zs p with
      | none =>
        have HNE : Hid (PR.2 ≠ some len) := by
          apply HFN.out
          have h1 : (pnms zs len (some 0) (k + 1)).2 = none := by
            rw [HNS.out, HG.out.2.2.1]
            simp only
            rw [← HL.out]
            exact gName_none (some p) (fun q hq => by cases hq; exact hgn)
          have h2 : k = 0 ∨ k = 1 := by omega
          rcases h2 with rfl | rfl
          · rw [HNS.out 1, h1]
            rfl
          · exact h1
        have KN : Hid (Calls Try.prog 77 #[.pointer (some ⟨g, 0, none⟩), .pointer (some ⟨D, 0, none⟩)] wr fun e w' => e = .returned (.bool false) ∧ Hid (GRd g D a len cap zs (some p) ⟨tn, ⟨none, 0, 0⟩, ⟨none, 0, 0⟩, ⟨none, 0, 0⟩⟩ Wb w')) := name_fail g D a len cap zs (some p) ⟨tn, ⟨none, 0, 0⟩, ⟨none, 0, 0⟩, ⟨none, 0, 0⟩⟩ Wb wr HG.out.1 (fun q hq => by cases hq; exact hgn)
        clear hgn
        go_wp2_with fail
        refine KN.out.mono ?_
        rintro e W3 ⟨rfl, H3⟩
        have HGF : Hid (GRd g D a len cap zs (some p) ⟨tn, ⟨none, 0, 0⟩, ⟨none, 0, 0⟩, ⟨none, 0, 0⟩⟩ Wb W3 ∧ Kp g D Wb W3) := ⟨H3.out, H3.out.k⟩
        clear H3 KN
        have d0 : W3.cell? ⟨D, 0, none⟩ = some (.slice tn.a tn.n tn.c) := HGF.out.1.d.box.1
        have d1 : W3.cell? ⟨D, 1, none⟩ = some (.slice none 0 0) := HGF.out.1.d.box.2.1
        have d2 : W3.cell? ⟨D, 2, none⟩ = some (.slice none 0 0) := HGF.out.1.d.box.2.2.1
        have d3 : W3.cell? ⟨D, 3, none⟩ = some (.slice none 0 0) := HGF.out.1.d.box.2.2.2.1
        have dl := HGF.out.1.d.lt
        have r0 : W3.cell? ⟨R, 0, none⟩ = some (.slice none 0 0) := (HN.out.1.rblk HGF.out.2).box.1
        have r1 : W3.cell? ⟨R, 1, none⟩ = some (.slice none 0 0) := (HN.out.1.rblk HGF.out.2).box.2.1
        have r2 : W3.cell? ⟨R, 2, none⟩ = some (.slice none 0 0) := (HN.out.1.rblk HGF.out.2).box.2.2.1
        have r3 : W3.cell? ⟨R, 3, none⟩ = some (.slice none 0 0) := (HN.out.1.rblk HGF.out.2).box.2.2.2.1
        have rz0 := (HN.out.1.rblk HGF.out.2).fz 0
        have rz1 := (HN.out.1.rblk HGF.out.2).fz 1
        have rz2 := (HN.out.1.rblk HGF.out.2).fz 2
        have rz3 := (HN.out.1.rblk HGF.out.2).fz 3
        have rl := (HN.out.1.rblk HGF.out.2).lt
        go_wp2_with fail
        have H8 : Hid (DBlk ((((W3.setCell ⟨R, 0, none⟩ (.slice tn.a tn.n tn.c)).setCell ⟨R, 1, none⟩ (.slice none 0 0)).setCell ⟨R, 2, none⟩ (.slice none 0 0)).setCell ⟨R, 3, none⟩ (.slice none 0 0)) R ⟨tn, ⟨none, 0, 0⟩, ⟨none, 0, 0⟩, ⟨none, 0, 0⟩⟩ ∧ Below w.heap.size w ((((W3.setCell ⟨R, 0, none⟩ (.slice tn.a tn.n tn.c)).setCell ⟨R, 1, none⟩ (.slice none 0 0)).setCell ⟨R, 2, none⟩ (.slice none 0 0)).setCell ⟨R, 3, none⟩ (.slice none 0 0))) := HN.out.1.tell HGF.out.2 ⟨tn, ⟨none, 0, 0⟩, ⟨none, 0, 0⟩, ⟨none, 0, 0⟩⟩
        generalize ((((W3.setCell ⟨R, 0, none⟩ (.slice tn.a tn.n tn.c)).setCell ⟨R, 1, none⟩ (.slice none 0 0)).setCell ⟨R, 2, none⟩ (.slice none 0 0)).setCell ⟨R, 3, none⟩ (.slice none 0 0)) = W88 at *
        have k0 := H8.out.1.box.1
        have k1 := H8.out.1.box.2.1
        have k2 := H8.out.1.box.2.2.1
        have k3 := H8.out.1.box.2.2.2.1
        simp only at k0 k1 k2 k3
        exact bodyPost_ret (v := .tuple #[.agg #[.slice tn.a tn.n tn.c, .slice none 0 0, .slice none 0 0, .slice none 0 0], .bool false]) (by simp [results, Try.results53, go_sem, k0, k1, k2, k3]) rfl (.inl ⟨⟨tn, ⟨none, 0, 0⟩, ⟨none, 0, 0⟩, ⟨none, 0, 0⟩⟩, rfl, H8.out.2, HNE.out⟩)
      | some r =>
        obtain ⟨o, q⟩ := r
        have KN : Hid (Calls Try.prog 77 #[.pointer (some ⟨g, 0, none⟩), .pointer (some ⟨D, 0, none⟩)] wr fun e w' => e = .returned (.bool true) ∧ ∃ s : Sl, Hid (GRd g D a len cap zs (some q) ⟨s, ⟨none, 0, 0⟩, ⟨none, 0, 0⟩, ⟨none, 0, 0⟩⟩ Wb w' ∧ OwnN Wb.heap.size w' (.slice s.a s.n s.c) (nss ++ [o]))) := name_yes g D a len cap p q zs nss o ⟨tn, ⟨none, 0, 0⟩, ⟨none, 0, 0⟩, ⟨none, 0, 0⟩⟩ Wb wr HG.out.1 HG.out.2.1 hnl hgn
        have HEQ : Hid (pnms zs len (some 0) (k + 1) = (nss ++ [o], some q)) := by
          show _ = _
          rw [HNS.out, HG.out.2.2.1]
          simp only
          rw [← HL.out, gName_pnm hgn]
        have HOK : Hid (∀ n ∈ nss ++ [o], nck n = 0) := by
          intro n hn
          simp only [List.mem_append, List.mem_singleton] at hn
          rcases hn with hn | rfl
          · exact HG.out.2.2.2 n hn
          · exact (gName_le hgn).2.1
        clear hgn
        go_wp2_with fail
        refine KN.out.mono ?_
        rintro e W3 ⟨rfl, s1, H3⟩
        clear KN HG
        go_wp2_with fail
        exact ⟨⟨k + 1, by omega, by go_num, s1, q, nss ++ [o], H3.out.1, H3.out.2, HEQ.out, HOK.out⟩, by simp [intOf]; omega⟩
    · have hge : ¬ (k : Int) < 2 := by omega
      have hk2 : k = 2 := by omega
      subst hk2
      have HG1 : Hid (GS g D a len cap zs Wb wr (some p) ⟨tn, ⟨none, 0, 0⟩, ⟨none, 0, 0⟩, ⟨none, 0, 0⟩⟩ ⟨nss, [], [], []⟩) := HG0.out.names HLT.out HG.out.1 HG.out.2.1
      have HNC : Hid (nss.length ≤ 5 ∧ ∀ n ∈ nss, nck n = 0) := ⟨by have := pnms_len zs len (some 0) 2; rw [HG.out.2.2.1] at this; simp only at this; omega, HG.out.2.2.2⟩
      have HPQ : Hid (PR = (⟨nss, (pnus zs len (some p) 4 5).1, [], []⟩, (pnus zs len (some p) 4 5).2)) := by
        show PR = _
        rw [HPR.out, HG.out.2.2.1]
      clear HG HPR HNS HFN
      have t0 := (HF.out wr HG1.out.kp).1
      have t1 := (HF.out wr HG1.out.kp).2.1
      have t2 := (HF.out wr HG1.out.kp).2.2.1
      have t3 := (HF.out wr HG1.out.kp).2.2.2.1
      have t4 := (HF.out wr HG1.out.kp).2.2.2.2.1
      have tS := (HF.out wr HG1.out.kp).2.2.2.2.2
      go_wp2_with fail
      clear t0 t1 t2 t3 t4 tS
      obtain ⟨W1, hW1⟩ : ∃ z, z = wr := ⟨_, rfl⟩
      subst hW1
      have hnub : 5 ≤ 100 := HNU.out
      go_loopw [11] (fun i wr => ∃ k : Nat, k ≤ 5 ∧ i = .int .i64 (k : Int) ∧ ∃ s2 : Sl, Hid (GRd g D a len cap zs (pnus zs len (some p) 4 k).2 ⟨⟨tn.a, tn.n, tn.c⟩, s2, ⟨none, 0, 0⟩, ⟨none, 0, 0⟩⟩ W1 wr ∧ UOwn W1.heap.size wr s2 (pnus zs len (some p) 4 k).1)) (fun i _ => 5 - (intOf i).toNat)
      case atStart => exact ⟨0, Nat.zero_le _, rfl, ⟨none, 0, 0⟩, HG1.out.rd, nil_uown _ _⟩
      case round =>
        obtain ⟨k, hk, rfl, s2, HG⟩ := hrel
        have HKP : Hid (Kp g D Wb wr) := HG1.out.kp.trans HG.out.1.k
        have t0 := (HF.out wr HKP.out).1
        have t1 := (HF.out wr HKP.out).2.1
        have t2 := (HF.out wr HKP.out).2.2.1
        have t3 := (HF.out wr HKP.out).2.2.2.1
        have t4 := (HF.out wr HKP.out).2.2.2.2.1
        have tS := (HF.out wr HKP.out).2.2.2.2.2
        by_cases hlt : k < 5
        · have hlt' : (k : Int) < 5 := by omega
          have HSUC : Hid (pnus zs len (some p) 4 (k + 1) = ((pnus zs len (some p) 4 k).1 ++ [pnu zs (pnus zs len (some p) 4 k).2 4], mv len (pnus zs len (some p) 4 k).2 ((4 : Nat) : Int))) := pnus_succ zs len (some p) 4 k
          have hk5 : (pnus zs len (some p) 4 k).1.length ≤ 1000 := by rw [pnus_len]; have := HNU.out; omega
          have hwd := HW.out (by omega)
          have hu := pnu_le zs HBY.out (pnus zs len (some p) 4 k).2 4 hwd.2
          have KN : Hid (∀ V, GRd g D a len cap zs (pnus zs len (some p) 4 k).2 ⟨⟨tn.a, tn.n, tn.c⟩, s2, ⟨none, 0, 0⟩, ⟨none, 0, 0⟩⟩ W1 V → Calls Try.prog 78 #[.pointer (some ⟨g, 0, none⟩), .int .i64 4] V fun e w' => e = .returned (.int .u64 ((pnu zs (pnus zs len (some p) 4 k).2 4 : Nat) : Int)) ∧ Hid (GRd g D a len cap zs (mv len (pnus zs len (some p) 4 k).2 ((4 : Nat) : Int)) ⟨⟨tn.a, tn.n, tn.c⟩, s2, ⟨none, 0, 0⟩, ⟨none, 0, 0⟩⟩ W1 w' ∧ V.grownBy w' (some g))) := fun V hV => gnum g D a len cap zs (pnus zs len (some p) 4 k).2 ⟨⟨tn.a, tn.n, tn.c⟩, s2, ⟨none, 0, 0⟩, ⟨none, 0, 0⟩⟩ W1 V 4 hwd.1 hwd.2 hV
          generalize hmv : mv len (pnus zs len (some p) 4 k).2 ((4 : Nat) : Int) = st1 at *
          generalize hpu : pnu zs (pnus zs len (some p) 4 k).2 4 = u at *
          generalize hus : (pnus zs len (some p) 4 k).1 = us at *
          generalize hst : (pnus zs len (some p) 4 k).2 = st at *
          clear hmv hpu hus hst hwd
          have hum := u32w u hu
          have d1 : wr.cell? ⟨D, 1, none⟩ = some (.slice s2.a s2.n s2.c) := HG.out.1.d.box.2.1
          have hDl := HG.out.1.d.lt
          go_wp2_with fail
          go_region_law (first
            | (refine st_nums rfl _ _ rfl W1.heap.size s2 us rfl (H6.out.2.stays (new_below _ _)) ⟨W5.heap.size, 0, none⟩ rfl u (one_u _ _) hu hk5 (Nat.le_trans H6.out.1.k.size (by simp)) ?_; intro t' W7 H7 HG7; have H8 : Hid (GRd g D a len cap zs st1 ⟨⟨tn.a, tn.n, tn.c⟩, s2, ⟨none, 0, 0⟩, ⟨none, 0, 0⟩⟩ W1 W7) := (H6.out.1.go (new_below _ _)).own HG7.out.1 HG7.out.2; have f1 : W7.cell? ⟨D, 1, none⟩ = some (.slice s2.a s2.n s2.c) := H8.out.d.box.2.1; have hf := H8.out.d.fz 1; have hD7 := H8.out.d.lt)
            | (go_simp; go_at_call 78; refine (KN.out _ (HG.out.1.go (Below.refl _ _).drew)).mono ?_; rintro e W5 ⟨rfl, H5⟩; have H6 : Hid (GRd g D a len cap zs st1 ⟨⟨tn.a, tn.n, tn.c⟩, s2, ⟨none, 0, 0⟩, ⟨none, 0, 0⟩⟩ W1 W5 ∧ UOwn W1.heap.size W5 s2 us) := ⟨H5.out.1, HG.out.2.keep (fun j h1 h2 => H5.out.2.block j h2 (fun e => by have := HG.out.1.lt; have := Option.some.inj e; omega))⟩; have hD5 : D < W5.heap.size := H6.out.1.d.lt; have e1 : W5.cell? ⟨D, 1, none⟩ = some (.slice s2.a s2.n s2.c) := H6.out.1.d.box.2.1; have e4 := (HF.out W5 (HG1.out.kp.trans H6.out.1.k)).2.2.2.2.1; have e5 := (HF.out W5 (HG1.out.kp.trans H6.out.1.k)).2.2.2.2.2))
          all_goals
            have H9 : Hid (GRd g D a len cap zs st1 ⟨⟨tn.a, tn.n, tn.c⟩, t', ⟨none, 0, 0⟩, ⟨none, 0, 0⟩⟩ W1 (W7.setCell ⟨D, 1, none⟩ (.slice t'.a t'.n t'.c)) ∧ UOwn W1.heap.size (W7.setCell ⟨D, 1, none⟩ (.slice t'.a t'.n t'.c)) t' (us ++ [u])) := ⟨H8.out.set 1 _ (H8.out.d.set1 t'), H7.out.keep (fun j h1 h2 => Below.heap_setCell _ _ _ j (by have := H8.out.lt; show j ≠ D; omega))⟩
            clear H8 H7 HG7 H6 H5 HG KN
            generalize (W7.setCell ⟨D, 1, none⟩ (.slice t'.a t'.n t'.c)) = W9 at *
            go_wp2_with fail
            exact ⟨⟨k + 1, by omega, by go_num, t', by rw [HSUC.out]; exact H9.out⟩, by simp [intOf]; omega⟩
        · have hge : ¬ (k : Int) < 5 := by omega
          have hkn : k = 5 := by omega
          subst hkn
          have HGB : Hid (GS g D a len cap zs Wb wr (pnus zs len (some p) 4 5).2 ⟨tn, s2, ⟨none, 0, 0⟩, ⟨none, 0, 0⟩⟩ ⟨nss, (pnus zs len (some p) 4 5).1, [], []⟩) := HG1.out.nums HLT.out HG.out.1 HG.out.2
          clear HG
          have HUL : Hid ((pnus zs len (some p) 4 5).1.length = 5) := pnus_len _ _ _ _ _
          generalize hP : pnus zs len (some p) 4 5 = PU at *
          clear hP
          obtain ⟨us, st⟩ := PU
          simp only at HGB HPQ HUL
          go_wp2_with fail
          obtain ⟨wz, hz⟩ : ∃ z, z = wr := ⟨_, rfl⟩
          subst hz
          go_loopw [] (fun wr => wr = wz) (fun _ => 0)
          case atStart => rfl
          case round =>
            have hwr := hrel
            subst hwr
            go_wp2_with fail
            cases st with
            | none =>
              have d0 : wr.cell? ⟨D, 0, none⟩ = some (.slice tn.a tn.n tn.c) := HGB.out.rd.d.box.1
              have d1 : wr.cell? ⟨D, 1, none⟩ = some (.slice s2.a s2.n s2.c) := HGB.out.rd.d.box.2.1
              have d2 : wr.cell? ⟨D, 2, none⟩ = some (.slice none 0 0) := HGB.out.rd.d.box.2.2.1
              have d3 : wr.cell? ⟨D, 3, none⟩ = some (.slice none 0 0) := HGB.out.rd.d.box.2.2.2.1
              have dl := HGB.out.rd.d.lt
              have eb : wr.cell? ⟨g, 2, none⟩ = some (.bool true) := MBlk.c2 (t := .slice none 0 0) (k := 0) HGB.out.rd.m
              have r0 : wr.cell? ⟨R, 0, none⟩ = some (.slice none 0 0) := (HN.out.1.rblk HGB.out.kp).box.1
              have r1 : wr.cell? ⟨R, 1, none⟩ = some (.slice none 0 0) := (HN.out.1.rblk HGB.out.kp).box.2.1
              have r2 : wr.cell? ⟨R, 2, none⟩ = some (.slice none 0 0) := (HN.out.1.rblk HGB.out.kp).box.2.2.1
              have r3 : wr.cell? ⟨R, 3, none⟩ = some (.slice none 0 0) := (HN.out.1.rblk HGB.out.kp).box.2.2.2.1
              have rz0 := (HN.out.1.rblk HGB.out.kp).fz 0
              have rz1 := (HN.out.1.rblk HGB.out.kp).fz 1
              have rz2 := (HN.out.1.rblk HGB.out.kp).fz 2
              have rz3 := (HN.out.1.rblk HGB.out.kp).fz 3
              have rl := (HN.out.1.rblk HGB.out.kp).lt
              go_upto_region 22 with fail
              go_region_held3 (fun V => V.cell? ⟨D, 0, none⟩ = some (.slice tn.a tn.n tn.c) ∧ V.cell? ⟨D, 1, none⟩ = some (.slice s2.a s2.n s2.c) ∧ V.cell? ⟨D, 2, none⟩ = some (.slice none 0 0) ∧ V.cell? ⟨D, 3, none⟩ = some (.slice none 0 0) ∧ V.cell? ⟨g, 2, none⟩ = some (.bool true)) (exact ⟨by go_keep, by go_keep, by go_keep, by go_keep, by go_keep⟩) (fail)
              all_goals
                go_wp2_with fail
                have H8 : Hid (DBlk (((((wr.setCell ⟨R, 0, none⟩ (.slice tn.a tn.n tn.c)).setCell ⟨R, 1, none⟩ (.slice s2.a s2.n s2.c)).setCell ⟨R, 2, none⟩ (.slice none 0 0)).setCell ⟨R, 3, none⟩ (.slice none 0 0)).drew) R ⟨tn, s2, ⟨none, 0, 0⟩, ⟨none, 0, 0⟩⟩ ∧ Below w.heap.size w (((((wr.setCell ⟨R, 0, none⟩ (.slice tn.a tn.n tn.c)).setCell ⟨R, 1, none⟩ (.slice s2.a s2.n s2.c)).setCell ⟨R, 2, none⟩ (.slice none 0 0)).setCell ⟨R, 3, none⟩ (.slice none 0 0)).drew) ∧ DOwn w.heap.size (((((wr.setCell ⟨R, 0, none⟩ (.slice tn.a tn.n tn.c)).setCell ⟨R, 1, none⟩ (.slice s2.a s2.n s2.c)).setCell ⟨R, 2, none⟩ (.slice none 0 0)).setCell ⟨R, 3, none⟩ (.slice none 0 0)).drew) ⟨tn, s2, ⟨none, 0, 0⟩, ⟨none, 0, 0⟩⟩ ⟨nss, us, [], []⟩) := ⟨(GB.final (x := ⟨tn, s2, ⟨none, 0, 0⟩, ⟨none, 0, 0⟩⟩) (d := ⟨nss, us, [], []⟩) HN.out.1 HGB.out.kp HGB.out.own).1, (GB.final (x := ⟨tn, s2, ⟨none, 0, 0⟩, ⟨none, 0, 0⟩⟩) (d := ⟨nss, us, [], []⟩) HN.out.1 HGB.out.kp HGB.out.own).2.1, GB.owned (x := ⟨tn, s2, ⟨none, 0, 0⟩, ⟨none, 0, 0⟩⟩) (d := ⟨nss, us, [], []⟩) HN.out.1 HGB.out.own⟩
                generalize (((((wr.setCell ⟨R, 0, none⟩ (.slice tn.a tn.n tn.c)).setCell ⟨R, 1, none⟩ (.slice s2.a s2.n s2.c)).setCell ⟨R, 2, none⟩ (.slice none 0 0)).setCell ⟨R, 3, none⟩ (.slice none 0 0)).drew) = W88 at *
                have k0 := H8.out.1.box.1
                have k1 := H8.out.1.box.2.1
                have k2 := H8.out.1.box.2.2.1
                have k3 := H8.out.1.box.2.2.2.1
                simp only at k0 k1 k2 k3
                refine bodyPost_ret (v := .tuple #[.agg #[.slice tn.a tn.n tn.c, .slice s2.a s2.n s2.c, .slice none 0 0, .slice none 0 0], .bool false]) (by simp [results, Try.results53, go_sem, k0, k1, k2, k3]) rfl ?_
                exact .inl ⟨⟨tn, s2, ⟨none, 0, 0⟩, ⟨none, 0, 0⟩⟩, rfl, H8.out.2.1, by rw [HPQ.out]; simp⟩
            | some r =>
              have d0 : wr.cell? ⟨D, 0, none⟩ = some (.slice tn.a tn.n tn.c) := HGB.out.rd.d.box.1
              have d1 : wr.cell? ⟨D, 1, none⟩ = some (.slice s2.a s2.n s2.c) := HGB.out.rd.d.box.2.1
              have d2 : wr.cell? ⟨D, 2, none⟩ = some (.slice none 0 0) := HGB.out.rd.d.box.2.2.1
              have d3 : wr.cell? ⟨D, 3, none⟩ = some (.slice none 0 0) := HGB.out.rd.d.box.2.2.2.1
              have dl := HGB.out.rd.d.lt
              have eb : wr.cell? ⟨g, 2, none⟩ = some (.bool false) := HGB.out.rd.m.1.c2
              have r0 : wr.cell? ⟨R, 0, none⟩ = some (.slice none 0 0) := (HN.out.1.rblk HGB.out.kp).box.1
              have r1 : wr.cell? ⟨R, 1, none⟩ = some (.slice none 0 0) := (HN.out.1.rblk HGB.out.kp).box.2.1
              have r2 : wr.cell? ⟨R, 2, none⟩ = some (.slice none 0 0) := (HN.out.1.rblk HGB.out.kp).box.2.2.1
              have r3 : wr.cell? ⟨R, 3, none⟩ = some (.slice none 0 0) := (HN.out.1.rblk HGB.out.kp).box.2.2.2.1
              have rz0 := (HN.out.1.rblk HGB.out.kp).fz 0
              have rz1 := (HN.out.1.rblk HGB.out.kp).fz 1
              have rz2 := (HN.out.1.rblk HGB.out.kp).fz 2
              have rz3 := (HN.out.1.rblk HGB.out.kp).fz 3
              have rl := (HN.out.1.rblk HGB.out.kp).lt
              go_upto_region 22 with fail
              go_region_held3 (fun V => V.cell? ⟨D, 0, none⟩ = some (.slice tn.a tn.n tn.c) ∧ V.cell? ⟨D, 1, none⟩ = some (.slice s2.a s2.n s2.c) ∧ V.cell? ⟨D, 2, none⟩ = some (.slice none 0 0) ∧ V.cell? ⟨D, 3, none⟩ = some (.slice none 0 0) ∧ V.cell? ⟨g, 2, none⟩ = some (.bool false)) (exact ⟨by go_keep, by go_keep, by go_keep, by go_keep, by go_keep⟩) (fail)
              all_goals
                go_wp2_with fail
                have H8 : Hid (DBlk (((((wr.setCell ⟨R, 0, none⟩ (.slice tn.a tn.n tn.c)).setCell ⟨R, 1, none⟩ (.slice s2.a s2.n s2.c)).setCell ⟨R, 2, none⟩ (.slice none 0 0)).setCell ⟨R, 3, none⟩ (.slice none 0 0)).drew) R ⟨tn, s2, ⟨none, 0, 0⟩, ⟨none, 0, 0⟩⟩ ∧ Below w.heap.size w (((((wr.setCell ⟨R, 0, none⟩ (.slice tn.a tn.n tn.c)).setCell ⟨R, 1, none⟩ (.slice s2.a s2.n s2.c)).setCell ⟨R, 2, none⟩ (.slice none 0 0)).setCell ⟨R, 3, none⟩ (.slice none 0 0)).drew) ∧ DOwn w.heap.size (((((wr.setCell ⟨R, 0, none⟩ (.slice tn.a tn.n tn.c)).setCell ⟨R, 1, none⟩ (.slice s2.a s2.n s2.c)).setCell ⟨R, 2, none⟩ (.slice none 0 0)).setCell ⟨R, 3, none⟩ (.slice none 0 0)).drew) ⟨tn, s2, ⟨none, 0, 0⟩, ⟨none, 0, 0⟩⟩ ⟨nss, us, [], []⟩) := ⟨(GB.final (x := ⟨tn, s2, ⟨none, 0, 0⟩, ⟨none, 0, 0⟩⟩) (d := ⟨nss, us, [], []⟩) HN.out.1 HGB.out.kp HGB.out.own).1, (GB.final (x := ⟨tn, s2, ⟨none, 0, 0⟩, ⟨none, 0, 0⟩⟩) (d := ⟨nss, us, [], []⟩) HN.out.1 HGB.out.kp HGB.out.own).2.1, GB.owned (x := ⟨tn, s2, ⟨none, 0, 0⟩, ⟨none, 0, 0⟩⟩) (d := ⟨nss, us, [], []⟩) HN.out.1 HGB.out.own⟩
                generalize (((((wr.setCell ⟨R, 0, none⟩ (.slice tn.a tn.n tn.c)).setCell ⟨R, 1, none⟩ (.slice s2.a s2.n s2.c)).setCell ⟨R, 2, none⟩ (.slice none 0 0)).setCell ⟨R, 3, none⟩ (.slice none 0 0)).drew) = W88 at *
                have k0 := H8.out.1.box.1
                have k1 := H8.out.1.box.2.1
                have k2 := H8.out.1.box.2.2.1
                have k3 := H8.out.1.box.2.2.2.1
                simp only at k0 k1 k2 k3
                refine bodyPost_ret (v := .tuple #[.agg #[.slice tn.a tn.n tn.c, .slice s2.a s2.n s2.c, .slice none 0 0, .slice none 0 0], .bool true]) (by simp [results, Try.results53, go_sem, k0, k1, k2, k3]) rfl ?_
                exact .inr ⟨⟨tn, s2, ⟨none, 0, 0⟩, ⟨none, 0, 0⟩⟩, ⟨nss, us, [], []⟩, rfl, H8.out.2.2, ⟨by have := HNC.out.1; simp only; omega, by intro n hn; have := (nck_small (HNC.out.2 n hn)).1; have := nsz_len n; omega, by have := HUL.out; simp only at *; omega, by simp [tsum], by simp⟩, H8.out.2.1, fun _ => by rw [HPQ.out], HNC.out.2⟩
end Go.Proofs.Ytdeoembjfdbbkaa
