/- Texts laid together: Ak Bw. -/
import Derived.Test.YtdeoembjfdbbkaaPbi
import Derived.Deep.CutBlock
/- What the document's examples say, at the head of each statement. -/
namespace Go.Proofs.Ytdeoembjfdbbkaa
open Go.ChangeShapes Go.WideShapes Go.ChangeAt Go.RowKit
set_option linter.unusedVariables false
set_option linter.unusedSimpArgs false

theorem rdv_new (w : World) (xs : List Value) (t : TypeId) : RdV (w.alloc (.cells xs.toArray t)) (some ⟨w.heap.size, 0, none⟩) xs := by
  refine .inr ⟨w.heap.size, 0, rfl, by simp, fun i hi => ?_⟩
  rw [Nat.zero_add]
  exact (show BlkV (w.alloc (.cells xs.toArray t)) w.heap.size t xs from heap_alloc_new _ _).cell i hi
theorem new_u (w : World) (us : List Nat) (n : Nat) (hn : us.length = n) (hm : n ≤ 1000) (hb : ∀ x ∈ us, x ≤ 4294967295) : URd (w.alloc (.cells (uv us).toArray 54)) ⟨some ⟨w.heap.size, 0, none⟩, n, n⟩ us :=
  ⟨rdv_new w (uv us) 54, hn, ⟨Nat.le_refl _, by simp only; omega⟩, by simp, hb⟩
theorem new_t (w : World) (ss : List ByteArray) (n : Nat) (hn : ss.length = n) (hm : n ≤ 1000) (hb : ∀ x ∈ ss, x.size ≤ 9223372036854775807) : TRd (w.alloc (.cells (tv ss).toArray 9)) ⟨some ⟨w.heap.size, 0, none⟩, n, n⟩ ss :=
  ⟨rdv_new w (tv ss) 9, hn, ⟨Nat.le_refl _, by simp only; omega⟩, by simp, hb⟩
theorem new_n1 (w : World) (s : Sl) (nm : List ByteArray) (h : TRd w s nm) : NRd (w.alloc (.cells #[.slice s.a s.n s.c] 53)) ⟨some ⟨w.heap.size, 0, none⟩, 1, 1⟩ [nm] := by
  refine ⟨.inr ⟨w.heap.size, 0, rfl, by simp, fun i hi => ?_⟩, rfl, ⟨Nat.le_refl _, by simp⟩, by simp⟩
  have : i = 0 := by simp at hi; omega
  subst this
  exact ⟨s, (show BlkV (w.alloc (.cells [Value.slice s.a s.n s.c].toArray 53)) w.heap.size 53 [Value.slice s.a s.n s.c] from heap_alloc_new _ _).cell 0 (by simp), h.below (new_below _ _)⟩
theorem new_b (w : World) (zs : List Int) (n : Nat) (hn : zs.length = n) (hm : n ≤ 1000) (hb : ∀ z ∈ zs, 0 ≤ z ∧ z ≤ 255) : BRd (w.alloc (.cells (zs.map (Value.int .u8)).toArray 5)) ⟨some ⟨w.heap.size, 0, none⟩, n, n⟩ zs := by
  refine ⟨⟨?_, hb⟩, hn, ⟨Nat.le_refl _, by simp only; omega⟩, by simp⟩
  have hblk : Blk (w.alloc (.cells (zs.map (Value.int .u8)).toArray 5)) w.heap.size zs := ⟨heap_alloc_new _ _, hb⟩
  exact .inr ⟨w.heap.size, 0, rfl, hblk.lt, fun i hi => by rw [Nat.zero_add]; exact hblk.cell i hi⟩
/-- What is written is read. -/
theorem readF_write (t : Nat) (d : Dat) (zs : List Int) (hck : checkF t d = 0) (hw : writeF t d = zs) (hl : zs.length ≤ 65535) : readF t zs = (d, 0) := by
  obtain ⟨hm, _, _, _⟩ := check_parts hck
  have := read_write t d hck
  rw [hw] at this
  unfold readF
  rw [if_pos hm, if_pos hl, this]
theorem readF_fail {t : Nat} {zs : List Int} (h : (readF t zs).2 ≠ 0) : (readF t zs).2 = 8 ∨ (readF t zs).2 = 6 := by
  unfold readF at h ⊢
  by_cases h1 : mayT t = true
  · rw [if_pos h1] at h ⊢
    by_cases h2 : zs.length ≤ 65535
    · rw [if_pos h2] at h ⊢
      cases hd : dreadF t zs with
      | none => exact .inl rfl
      | some d => rw [hd] at h; exact absurd rfl h
    · rw [if_neg h2]; exact .inl rfl
  · rw [if_neg h1]; exact .inr rfl
theorem readF_ok {t : Nat} {zs : List Int} (h : (readF t zs).2 = 0) : checkF t (readF t zs).1 = 0 ∧ writeF t (readF t zs).1 = zs ∧ zs.length ≤ 65535 := by
  unfold readF at h ⊢
  by_cases h1 : mayT t = true
  · rw [if_pos h1] at h ⊢
    by_cases h2 : zs.length ≤ 65535
    · rw [if_pos h2] at h ⊢
      cases hd : dreadF t zs with
      | none => rw [hd] at h; cases h
      | some d =>
        have := write_read hd
        exact ⟨this.1, this.2, h2⟩
    · rw [if_neg h2] at h; cases h
  · rw [if_neg h1] at h; cases h
abbrev mxD : Dat := ⟨[[⟨#[97]⟩]], [10], [], []⟩
abbrev txD : Dat := ⟨[], [], [⟨#[97]⟩, ⟨#[]⟩], []⟩
theorem mx_ck : checkF 15 mxD = 0 := by decide +kernel
theorem mx_wr : writeF 15 mxD = [0, 10, 1, 97, 0] := by decide +kernel
theorem tx_ck : checkF 16 txD = 0 := by decide +kernel
theorem tx_wr : writeF 16 txD = [1, 97, 0] := by decide +kernel
theorem tx_rd : readF 16 [1, 97, 0] = (txD, 0) := readF_write 16 txD _ tx_ck tx_wr (by simp)
set_option maxRecDepth 100000 in
set_option maxHeartbeats 4000000 in
theorem awake_any (w : World) : Calls Try.prog 31 #[] w fun e w' => e = .returned (.bool true) ∧ Hid (Below w.heap.size w w') := by
  have h1 := new_u w [10] 1 rfl (by omega) (by simp)
  obtain ⟨W1, hW1⟩ : ∃ W, W = w.alloc (.cells #[.int .u32 10] 54) := ⟨_, rfl⟩
  have h1' : URd W1 ⟨some ⟨w.heap.size, 0, none⟩, 1, 1⟩ [10] := by rw [hW1]; exact h1
  have b1 : Below w.heap.size w W1 := by rw [hW1]; exact new_below _ _
  have z1 : W1.heap.size = w.heap.size + 1 := by rw [hW1]; simp
  have h2 : TRd (W1.alloc (.cells #[.string ⟨#[97]⟩] 9)) ⟨some ⟨W1.heap.size, 0, none⟩, 1, 1⟩ [⟨#[97]⟩] := new_t W1 [⟨#[97]⟩] 1 rfl (by omega) (by intro x hx; simp at hx; subst hx; decide)
  have b2 := new_below W1 (.cells #[.string ⟨#[97]⟩] 9)
  obtain ⟨W2, hW2⟩ : ∃ W, W = W1.alloc (.cells #[.string ⟨#[97]⟩] 9) := ⟨_, rfl⟩
  rw [← hW2] at h2 b2
  have z2 : W2.heap.size = w.heap.size + 1 + 1 := by rw [hW2]; simp [z1]
  have h3 := new_n1 W2 ⟨some ⟨W1.heap.size, 0, none⟩, 1, 1⟩ [⟨#[97]⟩] h2
  have b3 := new_below W2 (.cells #[.slice (some ⟨W1.heap.size, 0, none⟩) 1 1] 53)
  obtain ⟨W3, hW3⟩ : ∃ W, W = W2.alloc (.cells #[.slice (some ⟨W1.heap.size, 0, none⟩) 1 1] 53) := ⟨_, rfl⟩
  simp only at h3
  rw [← hW3] at h3 b3
  have b13 : Below W1.heap.size W1 W3 := b2.trans (b3.mono b2.size)
  have HD : Hid (DRd W3 ⟨⟨some ⟨w.heap.size + 1 + 1, 0, none⟩, 1, 1⟩, ⟨some ⟨w.heap.size, 0, none⟩, 1, 1⟩, ⟨none, 0, 0⟩, ⟨none, 0, 0⟩⟩ mxD) := by
    rw [z2] at h3
    exact ⟨h3, h1'.below b13, nil_trd _, nil_brd _⟩
  have HB : Hid (Below w.heap.size w W3) := b1.trans (b13.mono b1.size)
  have hW : ((w.alloc (.cells #[.int .u32 10] 54)).alloc (.cells #[.string ⟨#[97]⟩] 9)).alloc (.cells #[.slice (some ⟨w.heap.size + 1, 0, none⟩) 1 1] 53) = W3 := by rw [hW3, hW2, z1, hW1]
  clear h1 h1' b1 h2 b2 h3 b3 b13 hW1 hW2 hW3
  have KB := bytes5_any 15 ⟨⟨some ⟨w.heap.size + 1 + 1, 0, none⟩, 1, 1⟩, ⟨some ⟨w.heap.size, 0, none⟩, 1, 1⟩, ⟨none, 0, 0⟩, ⟨none, 0, 0⟩⟩ mxD W3 HD.out ⟨by decide, by decide, by decide, by decide, by decide⟩
  rw [mx_ck, mx_wr] at KB
  have KBH : Hid (Calls Try.prog 10 #[.int .u16 15, .agg #[.slice (some ⟨w.heap.size + 1 + 1, 0, none⟩) 1 1, .slice (some ⟨w.heap.size, 0, none⟩) 1 1, .slice none 0 0, .slice none 0 0]] W3 fun e w' => ∃ s : Sl, e = .returned (.tuple #[.slice s.a s.n s.c, .int .i64 0]) ∧ Hid (s.n = 5 ∧ Rd w' s.a [0, 10, 1, 97, 0] ∧ Below W3.heap.size W3 w')) := by
    refine Calls.mono KB ?_
    rintro e w' ⟨s, rfl, H⟩
    obtain ⟨q1, q2, q3, q4, q5, q6⟩ := H.out
    exact ⟨s, rfl, (q4 rfl).1, (q4 rfl).2, q6⟩
  clear KB HD
  go_enter Try.func31, Try.ntmps31
  go_wp2_with fail
  try rw [hW]
  clear hW
  refine KBH.out.mono ?_
  rintro e W4 ⟨s, rfl, H4⟩
  clear KBH
  have h5 : BRd (W4.alloc (.cells #[.int .u8 1, .int .u8 97, .int .u8 0] 5)) ⟨some ⟨W4.heap.size, 0, none⟩, 3, 3⟩ [1, 97, 0] := new_b W4 [1, 97, 0] 3 rfl (by omega) (by decide)
  have b5 := new_below W4 (.cells #[.int .u8 1, .int .u8 97, .int .u8 0] 5)
  have H5 : Hid (Rd (W4.alloc (.cells #[.int .u8 1, .int .u8 97, .int .u8 0] 5)) s.a [0, 10, 1, 97, 0] ∧ s.n = 5 ∧ Below w.heap.size w (W4.alloc (.cells #[.int .u8 1, .int .u8 97, .int .u8 0] 5)) ∧ Rd (W4.alloc (.cells #[.int .u8 1, .int .u8 97, .int .u8 0] 5)) (some ⟨W4.heap.size, 0, none⟩) [1, 97, 0]) := ⟨H4.out.2.1.below b5, H4.out.1, (HB.out.trans (H4.out.2.2.mono HB.out.size)).trans (b5.mono (HB.out.trans (H4.out.2.2.mono HB.out.size)).size), h5.rd⟩
  clear h5 b5 H4 HB
  go_wp2_with fail
  generalize W4.alloc (.cells #[.int .u8 1, .int .u8 97, .int .u8 0] 5) = W5 at *
  generalize W4.heap.size = g4 at *
  have KR := read5_any 16 (some ⟨g4, 0, none⟩) 3 3 [1, 97, 0] W5 H5.out.2.2.2 rfl (by omega) (by simp)
  rw [tx_rd] at KR
  have KRH : Hid (Calls Try.prog 27 #[.int .u16 16, .slice (some ⟨g4, 0, none⟩) 3 3] W5 (RdP (txD, 0) W5)) := KR
  clear KR
  refine KRH.out.mono ?_
  rintro e W6 ⟨x, rfl, H6⟩
  clear KRH
  go_upto_region 3 with fail
  have b7 := new_below W6 (.cells #[.slice x.p1.a x.p1.n x.p1.c, .slice x.p2.a x.p2.n x.p2.c, .slice x.p3.a x.p3.n x.p3.c, .slice x.p4.a x.p4.n x.p4.c] 29)
  have H7 : Hid (DBlk (W6.alloc (.cells #[.slice x.p1.a x.p1.n x.p1.c, .slice x.p2.a x.p2.n x.p2.c, .slice x.p3.a x.p3.n x.p3.c, .slice x.p4.a x.p4.n x.p4.c] 29)) W6.heap.size x ∧ TRd (W6.alloc (.cells #[.slice x.p1.a x.p1.n x.p1.c, .slice x.p2.a x.p2.n x.p2.c, .slice x.p3.a x.p3.n x.p3.c, .slice x.p4.a x.p4.n x.p4.c] 29)) x.p3 [⟨#[97]⟩, ⟨#[]⟩] ∧ Rd (W6.alloc (.cells #[.slice x.p1.a x.p1.n x.p1.c, .slice x.p2.a x.p2.n x.p2.c, .slice x.p3.a x.p3.n x.p3.c, .slice x.p4.a x.p4.n x.p4.c] 29)) s.a [0, 10, 1, 97, 0] ∧ Below w.heap.size w (W6.alloc (.cells #[.slice x.p1.a x.p1.n x.p1.c, .slice x.p2.a x.p2.n x.p2.c, .slice x.p3.a x.p3.n x.p3.c, .slice x.p4.a x.p4.n x.p4.c] 29))) := by
    obtain ⟨q1, q2⟩ := H6.out
    obtain ⟨p1, p2, p3, p4⟩ := H5.out
    exact ⟨heap_alloc_new _ _, q1.2.2.1.rd.below b7, (p1.below q2).below b7, (p3.trans (q2.mono p3.size)).trans (b7.mono (Nat.le_trans p3.size q2.size))⟩
  have hsn : s.n = 5 := H5.out.2.1
  clear b7 H6 H5
  generalize W6.alloc (.cells #[.slice x.p1.a x.p1.n x.p1.c, .slice x.p2.a x.p2.n x.p2.c, .slice x.p3.a x.p3.n x.p3.c, .slice x.p4.a x.p4.n x.p4.c] 29) = W7 at *
  generalize W6.heap.size = D at *
  obtain ⟨x1, x2, ⟨a3, n3, c3⟩, x4⟩ := x
  have hn3 : n3 = 2 := H7.out.2.1.len.symm
  subst hn3
  obtain ⟨sa, sn, sc⟩ := s
  simp only at hsn H7 ⊢
  subst hsn
  have hcv : (convert 27 9 (.slice sa 5 sc)).run Try.prog W7 = .ok (.string ⟨#[0, 10, 1, 97, 0]⟩) W7 := conv_rd sa 5 sc [0, 10, 1, 97, 0] W7 H7.out.2.2.1 rfl
  have d2 : W7.cell? ⟨D, 2, none⟩ = some (.slice a3 2 c3) := H7.out.1.box.2.2.1
  have hDl := H7.out.1.lt
  have K8 : Hid (Calls Try.prog 46 #[.slice a3 2 c3, .slice (some ⟨W7.heap.size, 0, none⟩) 2 2] (W7.alloc (.cells #[.string ⟨#[97]⟩, .string ⟨#[]⟩] 9)) fun e w' => e = .returned (.bool true) ∧ Hid (Below (W7.alloc (.cells #[.string ⟨#[97]⟩, .string ⟨#[]⟩] 9)).heap.size (W7.alloc (.cells #[.string ⟨#[97]⟩, .string ⟨#[]⟩] 9)) w')) := sameT_yes a3 (some ⟨W7.heap.size, 0, none⟩) 2 c3 2 [⟨#[97]⟩, ⟨#[]⟩] _ (H7.out.2.1.rd.below (new_below _ _)) (rdv_new W7 (tv [⟨#[97]⟩, ⟨#[]⟩]) 9) rfl (by omega)
  have HB8 : Hid (Below w.heap.size w (W7.alloc (.cells #[.string ⟨#[97]⟩, .string ⟨#[]⟩] 9))) := H7.out.2.2.2.trans ((new_below _ _).mono H7.out.2.2.2.size)
  go_wp2_with fail
  refine K8.out.mono ?_
  rintro e W9 ⟨rfl, H9⟩
  have HB9 : Hid (Below w.heap.size w W9) := HB8.out.trans (H9.out.mono HB8.out.size)
  clear K8 HB8 H9 H7
  go_wp2_with fail
  go_ret
  exact ⟨rfl, HB9⟩
end Go.Proofs.Ytdeoembjfdbbkaa
/- The walk of the statement on the way back of data. -/
namespace Go.Proofs.Ytdeoembjfdbbkaa
open Go.ChangeShapes Go.WideShapes Go.ChangeAt Go.RowKit
set_option linter.unusedVariables false
set_option linter.unusedSimpArgs false

theorem wlen {t : Nat} {d : Dat} (hck : checkF t d = 0) : (writeF t d).length ≤ 65535 := by
  obtain ⟨hm, hf, hnk, hsz⟩ := check_parts hck
  have hwr := wrt_of hck
  obtain ⟨hq1, hq2, hq3, hq4, hq5, hq6⟩ := wr_eq t d hf
  rw [← hq6]
  have h1 := hwr.sz
  rw [hq1, ← hq4] at h1
  have h2 : (ptB (d.ts.length - (fs t).tl) d.ts).length = (tsB t d.ts).length := by
    have e1 := congrArg List.length hq6
    unfold writeF at e1
    by_cases h6 : t = 6
    · obtain ⟨_, e2, e3⟩ := hwr.soa h6
      rw [e2]; simp [ptB, tsB, nby]
    · rw [if_neg h6, hq1, hq4] at e1
      simp only [List.length_append] at e1
      omega
  simp only [List.length_append] at h1 ⊢
  omega
theorem readF_bd {t : Nat} {zs : List Int} (hb : ∀ z ∈ zs, 0 ≤ z ∧ z ≤ 255) (h : (readF t zs).2 = 0) : Bd (readF t zs).1 := by
  obtain ⟨h1, h2, h3⟩ := readF_ok h
  have hm := (check_parts h1).1
  have e := readF_at t zs hb hm h3
  by_cases c1 : (pread (fs t) zs zs.length).2 = some zs.length
  · by_cases c2 : checkF t (pread (fs t) zs zs.length).1 = 0
    · rw [if_pos c1, if_pos c2] at e
      rw [e]
      exact pread_bd t zs h3
    · rw [if_pos c1, if_neg c2] at e
      rw [e] at h; cases h
  · rw [if_neg c1] at e
    rw [e] at h; cases h
/-- Where the walk stands: the data's box, the data, the bytes can be read. -/
structure BS (w W : World) (b : Nat) (x : DA) (d : Dat) (a : Option Addr) (zs : List Int) : Prop where
  blk : DBlk W b x
  rd : DRd W x d
  bs : Rd W a zs
  bel : Below w.heap.size w W
theorem BS.go {w W W' : World} {b : Nat} {x : DA} {d : Dat} {a : Option Addr} {zs : List Int} (h : BS w W b x d a zs) (hb : Below W.heap.size W W') : BS w W' b x d a zs :=
  ⟨h.blk.same (hb.block b h.blk.lt), h.rd.below hb, h.bs.below hb, h.bel.trans (hb.mono h.bel.size)⟩
set_option maxRecDepth 100000 in
set_option maxHeartbeats 8000000 in
theorem back_any (t : Nat) (x : DA) (d : Dat) (a : Option Addr) (len cap : Nat) (zs : List Int) (w : World) (h : DRd w x d) (hb : BRd w ⟨a, len, cap⟩ zs) :
    Calls Try.prog 5 #[.int .u16 t, .agg #[.slice x.p1.a x.p1.n x.p1.c, .slice x.p2.a x.p2.n x.p2.c, .slice x.p3.a x.p3.n x.p3.c, .slice x.p4.a x.p4.n x.p4.c], .slice a len cap] w fun e w' => e = .returned (.bool true) ∧ Below w.heap.size w w' := by
  have hl : zs.length = len := hb.len
  have hc : len ≤ cap ∧ cap ≤ 9223372036854775807 := hb.cap
  have hnil : a = none → cap = 0 := hb.nil
  have hbd := hb.rd.2
  have HS1 : Hid (BS w (w.alloc (.cells #[.slice x.p1.a x.p1.n x.p1.c, .slice x.p2.a x.p2.n x.p2.c, .slice x.p3.a x.p3.n x.p3.c, .slice x.p4.a x.p4.n x.p4.c] 29)) w.heap.size x d a zs) := ⟨heap_alloc_new _ _, h.below (new_below _ _), hb.rd.below (new_below _ _), new_below _ _⟩
  have KA : Hid (∀ W, Calls Try.prog 31 #[] W fun e w' => e = .returned (.bool true) ∧ Hid (Below W.heap.size W w')) := awake_any
  have KL : Hid (∀ W, DRd W x d → Calls Try.prog 8 #[.agg #[.slice x.p1.a x.p1.n x.p1.c, .slice x.p2.a x.p2.n x.p2.c, .slice x.p3.a x.p3.n x.p3.c, .slice x.p4.a x.p4.n x.p4.c]] W (LgPost d W)) := fun W hW => large_any x d W hW
  have KB : Hid (Small d → ∀ W, DRd W x d → Calls Try.prog 10 #[.int .u16 t, .agg #[.slice x.p1.a x.p1.n x.p1.c, .slice x.p2.a x.p2.n x.p2.c, .slice x.p3.a x.p3.n x.p3.c, .slice x.p4.a x.p4.n x.p4.c]] W (fun e w' => ∃ (s : Sl), e = .returned (.tuple #[.slice s.a s.n s.c, .int .i64 (checkF t d)]) ∧ Hid (s.n ≤ s.c ∧ s.c ≤ 9223372036854775807 ∧ (s.a = none → s.c = 0) ∧ (checkF t d = 0 → s.n = (writeF t d).length ∧ Rd w' s.a (writeF t d)) ∧ (checkF t d ≠ 0 → s = ⟨none, 0, 0⟩) ∧ Below W.heap.size W w'))) := fun hs W hW => bytes5_any t x d W hW hs.bd
  have KC : Hid (Small d → ∀ W, DRd W x d → Calls Try.prog 13 #[.int .u16 t, .agg #[.slice x.p1.a x.p1.n x.p1.c, .slice x.p2.a x.p2.n x.p2.c, .slice x.p3.a x.p3.n x.p3.c, .slice x.p4.a x.p4.n x.p4.c]] W fun e w' => e = .returned (.int .i64 (checkF t d)) ∧ Hid (Below W.heap.size W w')) := fun hs W hW => check_any t x d W hW hs.bd
  have KR : Hid (∀ W, Rd W a zs → Calls Try.prog 27 #[.int .u16 t, .slice a len cap] W (RdP (readF t zs) W)) := fun W hW => read5_any t a len cap zs W hW hl hc hnil
  have KRW : Hid (checkF t d = 0 → ∀ W (s : Sl), s.n = (writeF t d).length → Rd W s.a (writeF t d) → s.n ≤ s.c → s.c ≤ 9223372036854775807 → (s.a = none → s.c = 0) → Calls Try.prog 27 #[.int .u16 t, .slice s.a s.n s.c] W (RdP (d, 0) W)) := by
    intro hck W s h1 h2 h3 h4 h5
    have := read5_any t s.a s.n s.c (writeF t d) W h2 h1.symm ⟨h3, h4⟩ h5
    rw [readF_write t d _ hck rfl (wlen hck)] at this
    exact this
  have HRR : Hid ((readF t zs).2 ≠ 0 → (readF t zs).2 = 8 ∨ (readF t zs).2 = 6) := readF_fail
  have HBB : Hid ((readF t zs).2 = 0 → ∀ W y, DRd W y (readF t zs).1 → Calls Try.prog 10 #[.int .u16 t, .agg #[.slice y.p1.a y.p1.n y.p1.c, .slice y.p2.a y.p2.n y.p2.c, .slice y.p3.a y.p3.n y.p3.c, .slice y.p4.a y.p4.n y.p4.c]] W (fun e w' => ∃ (s : Sl), e = .returned (.tuple #[.slice s.a s.n s.c, .int .i64 0]) ∧ Hid (s.n = len ∧ Rd w' s.a zs ∧ Below W.heap.size W w'))) := by
    intro h0 W y hy
    obtain ⟨h1, h2, h3⟩ := readF_ok h0
    have := bytes5_any t y _ W hy (readF_bd hbd h0)
    rw [h1, h2] at this
    refine Calls.mono this ?_
    rintro e w' ⟨s, rfl, H⟩
    obtain ⟨_, _, _, q4, _, q6⟩ := H.out
    exact ⟨s, rfl, by rw [(q4 rfl).1, hl], (q4 rfl).2, q6⟩
  have KS : Hid (∀ W y, DRd W y d → DRd W x d → Calls Try.prog 17 #[.agg #[.slice y.p1.a y.p1.n y.p1.c, .slice y.p2.a y.p2.n y.p2.c, .slice y.p3.a y.p3.n y.p3.c, .slice y.p4.a y.p4.n y.p4.c], .agg #[.slice x.p1.a x.p1.n x.p1.c, .slice x.p2.a x.p2.n x.p2.c, .slice x.p3.a x.p3.n x.p3.c, .slice x.p4.a x.p4.n x.p4.c]] W fun e w' => e = .returned (.bool true) ∧ Hid (Below W.heap.size W w')) := fun W y h1 h2 => samedata_yes y x d W h1 h2
  have KSB : Hid (∀ W (s : Sl), s.n = len → Rd W s.a zs → Rd W a zs → Calls Try.prog 12 #[.slice s.a s.n s.c, .slice a len cap] W fun e w' => e = .returned (.bool true) ∧ w' = W) := by
    intro W s h1 h2 h3
    rw [h1]
    exact same_yes s.a a len s.c cap zs W h2 h3 hl
  clear h hb hbd hnil hl
  generalize writeF t d = WD at *
  generalize checkF t d = C at *
  generalize readF t zs = RR at *
  obtain ⟨rd, rc⟩ := RR
  simp only at HRR HBB KR
  go_enter Try.func5, Try.ntmps5
  go_upto_region 1 with fail
  generalize (w.alloc (.cells #[.slice x.p1.a x.p1.n x.p1.c, .slice x.p2.a x.p2.n x.p2.c, .slice x.p3.a x.p3.n x.p3.c, .slice x.p4.a x.p4.n x.p4.c] 29)) = W1 at *
  obtain ⟨b, hb⟩ : ∃ b, b = w.heap.size := ⟨_, rfl⟩
  rw [← hb] at HS1 ⊢
  have Hb : Hid (b = w.heap.size) := hb
  clear hb
  go_wp2_with fail
  refine (KA.out _).mono ?_
  rintro e W2 ⟨rfl, H2⟩
  have HS2 : Hid (BS w W2 b x d a zs) := HS1.out.go H2.out
  clear HS1 H2 KA
  have c0 : W2.cell? ⟨b, 0, none⟩ = some (.slice x.p1.a x.p1.n x.p1.c) := HS2.out.blk.box.1
  have c1 : W2.cell? ⟨b, 1, none⟩ = some (.slice x.p2.a x.p2.n x.p2.c) := HS2.out.blk.box.2.1
  have c2 : W2.cell? ⟨b, 2, none⟩ = some (.slice x.p3.a x.p3.n x.p3.c) := HS2.out.blk.box.2.2.1
  have c3 : W2.cell? ⟨b, 3, none⟩ = some (.slice x.p4.a x.p4.n x.p4.c) := HS2.out.blk.box.2.2.2.1
  have hbl := HS2.out.blk.lt
  go_wp2_with fail
  refine (KL.out _ HS2.out.rd).mono ?_
  rintro e W3 ⟨bl, rfl, hsm, hb3⟩
  have HS3 : Hid (BS w W3 b x d a zs) := HS2.out.go hb3
  clear HS2 KL c0 c1 c2 c3 hb3 hbl
  cases bl with
  | true =>
    clear hsm
    go_wp2_with fail
    go_ret
    exact ⟨rfl, HS3.out.bel⟩
  | false =>
    have hs := hsm rfl
    have KB2 := KB.out hs
    have KC2 := KC.out hs
    have HKB : Hid (∀ W, DRd W x d → Calls Try.prog 10 #[.int .u16 t, .agg #[.slice x.p1.a x.p1.n x.p1.c, .slice x.p2.a x.p2.n x.p2.c, .slice x.p3.a x.p3.n x.p3.c, .slice x.p4.a x.p4.n x.p4.c]] W (fun e w' => ∃ (s : Sl), e = .returned (.tuple #[.slice s.a s.n s.c, .int .i64 C]) ∧ Hid (s.n ≤ s.c ∧ s.c ≤ 9223372036854775807 ∧ (s.a = none → s.c = 0) ∧ (C = 0 → s.n = WD.length ∧ Rd w' s.a WD) ∧ (C ≠ 0 → s = ⟨none, 0, 0⟩) ∧ Below W.heap.size W w'))) := KB2
    have HKC : Hid (∀ W, DRd W x d → Calls Try.prog 13 #[.int .u16 t, .agg #[.slice x.p1.a x.p1.n x.p1.c, .slice x.p2.a x.p2.n x.p2.c, .slice x.p3.a x.p3.n x.p3.c, .slice x.p4.a x.p4.n x.p4.c]] W fun e w' => e = .returned (.int .i64 C) ∧ Hid (Below W.heap.size W w')) := KC2
    clear KB KC KB2 KC2 hsm hs
    by_cases hgt : (2000 : Int) < (len : Int)
    · go_wp2_with fail
      go_ret
      exact ⟨rfl, HS3.out.bel⟩
    · go_upto_region 4 with fail
      have c0 : W3.cell? ⟨b, 0, none⟩ = some (.slice x.p1.a x.p1.n x.p1.c) := HS3.out.blk.box.1
      have c1 : W3.cell? ⟨b, 1, none⟩ = some (.slice x.p2.a x.p2.n x.p2.c) := HS3.out.blk.box.2.1
      have c2 : W3.cell? ⟨b, 2, none⟩ = some (.slice x.p3.a x.p3.n x.p3.c) := HS3.out.blk.box.2.2.1
      have c3 : W3.cell? ⟨b, 3, none⟩ = some (.slice x.p4.a x.p4.n x.p4.c) := HS3.out.blk.box.2.2.2.1
      have hbl := HS3.out.blk.lt
      go_wp2_with fail
      refine (HKB.out _ HS3.out.rd).mono ?_
      rintro e W4 ⟨s, rfl, H4⟩
      have HS4 : Hid (BS w W4 b x d a zs) := HS3.out.go H4.out.2.2.2.2.2
      clear HS3 HKB c0 c1 c2 c3 hbl
      have c0 : W4.cell? ⟨b, 0, none⟩ = some (.slice x.p1.a x.p1.n x.p1.c) := HS4.out.blk.box.1
      have c1 : W4.cell? ⟨b, 1, none⟩ = some (.slice x.p2.a x.p2.n x.p2.c) := HS4.out.blk.box.2.1
      have c2 : W4.cell? ⟨b, 2, none⟩ = some (.slice x.p3.a x.p3.n x.p3.c) := HS4.out.blk.box.2.2.1
      have c3 : W4.cell? ⟨b, 3, none⟩ = some (.slice x.p4.a x.p4.n x.p4.c) := HS4.out.blk.box.2.2.2.1
      have hbl := HS4.out.blk.lt
      go_wp2_with fail
      refine (HKC.out _ HS4.out.rd).mono ?_
      rintro e W5 ⟨rfl, H5⟩
      have HS5 : Hid (BS w W5 b x d a zs) := HS4.out.go H5.out
      have HW5 : Hid (C = 0 → s.n = WD.length ∧ Rd W5 s.a WD) := fun hc => ⟨(H4.out.2.2.2.1 hc).1, (H4.out.2.2.2.1 hc).2.below H5.out⟩
      have HV5 : Hid (s.n ≤ s.c ∧ s.c ≤ 9223372036854775807 ∧ (s.a = none → s.c = 0)) := ⟨H4.out.1, H4.out.2.1, H4.out.2.2.1⟩
      clear HS4 H4 H5 HKC c0 c1 c2 c3 hbl
      by_cases hC : C = 0
      · have hCb : (C == 0) = true := by simp [hC]
        have K8 : Hid (Calls Try.prog 27 #[.int .u16 t, .slice s.a s.n s.c] W5 (RdP (d, 0) W5)) := KRW.out hC W5 s (HW5.out hC).1 (HW5.out hC).2 HV5.out.1 HV5.out.2.1 HV5.out.2.2
        clear HW5 HV5 KRW
        have HC0 : Hid (C = 0) := hC
        subst hC
        go_wp2_with fail
        refine K8.out.mono ?_
        rintro e W6 ⟨z, rfl, H6⟩
        clear K8
        have hnz := new_below W6 (.cells #[.slice z.p1.a z.p1.n z.p1.c, .slice z.p2.a z.p2.n z.p2.c, .slice z.p3.a z.p3.n z.p3.c, .slice z.p4.a z.p4.n z.p4.c] 29)
        have HS7 : Hid (BS w (W6.alloc (.cells #[.slice z.p1.a z.p1.n z.p1.c, .slice z.p2.a z.p2.n z.p2.c, .slice z.p3.a z.p3.n z.p3.c, .slice z.p4.a z.p4.n z.p4.c] 29)) b x d a zs ∧ DBlk (W6.alloc (.cells #[.slice z.p1.a z.p1.n z.p1.c, .slice z.p2.a z.p2.n z.p2.c, .slice z.p3.a z.p3.n z.p3.c, .slice z.p4.a z.p4.n z.p4.c] 29)) W6.heap.size z ∧ DRd (W6.alloc (.cells #[.slice z.p1.a z.p1.n z.p1.c, .slice z.p2.a z.p2.n z.p2.c, .slice z.p3.a z.p3.n z.p3.c, .slice z.p4.a z.p4.n z.p4.c] 29)) z d) := ⟨(HS5.out.go H6.out.2).go hnz, heap_alloc_new _ _, H6.out.1.rd.below hnz⟩
        clear hnz H6 HS5
        go_upto_region 9 with fail
        generalize W6.alloc (.cells #[.slice z.p1.a z.p1.n z.p1.c, .slice z.p2.a z.p2.n z.p2.c, .slice z.p3.a z.p3.n z.p3.c, .slice z.p4.a z.p4.n z.p4.c] 29) = W7 at *
        generalize W6.heap.size = D7 at *
        have c0 : W7.cell? ⟨b, 0, none⟩ = some (.slice x.p1.a x.p1.n x.p1.c) := HS7.out.1.blk.box.1
        have c1 : W7.cell? ⟨b, 1, none⟩ = some (.slice x.p2.a x.p2.n x.p2.c) := HS7.out.1.blk.box.2.1
        have c2 : W7.cell? ⟨b, 2, none⟩ = some (.slice x.p3.a x.p3.n x.p3.c) := HS7.out.1.blk.box.2.2.1
        have c3 : W7.cell? ⟨b, 3, none⟩ = some (.slice x.p4.a x.p4.n x.p4.c) := HS7.out.1.blk.box.2.2.2.1
        have k0 : W7.cell? ⟨D7, 0, none⟩ = some (.slice z.p1.a z.p1.n z.p1.c) := HS7.out.2.1.box.1
        have k1 : W7.cell? ⟨D7, 1, none⟩ = some (.slice z.p2.a z.p2.n z.p2.c) := HS7.out.2.1.box.2.1
        have k2 : W7.cell? ⟨D7, 2, none⟩ = some (.slice z.p3.a z.p3.n z.p3.c) := HS7.out.2.1.box.2.2.1
        have k3 : W7.cell? ⟨D7, 3, none⟩ = some (.slice z.p4.a z.p4.n z.p4.c) := HS7.out.2.1.box.2.2.2.1
        have hbl := HS7.out.1.blk.lt
        have hDl7 := HS7.out.2.1.lt
        go_wp2_with fail
        refine (KS.out _ z HS7.out.2.2 HS7.out.1.rd).mono ?_
        rintro e W8 ⟨rfl, H8⟩
        have HSn : Hid (BS w W8 b x d a zs) := HS7.out.1.go H8.out
        clear KS HS7 H8 c0 c1 c2 c3 k0 k1 k2 k3 hbl hDl7
        go_upto_region 11 with fail
        have K11 : Hid (Calls Try.prog 27 #[.int .u16 t, .slice a len cap] W8 (RdP (rd, rc) W8)) := KR.out _ HSn.out.bs
        clear KR
        go_wp2_with fail
        refine K11.out.mono ?_
        rintro e V2 ⟨y, rfl, G2⟩
        clear K11
        have hny := new_below V2 (.cells #[.slice y.p1.a y.p1.n y.p1.c, .slice y.p2.a y.p2.n y.p2.c, .slice y.p3.a y.p3.n y.p3.c, .slice y.p4.a y.p4.n y.p4.c] 29)
        have GS3 : Hid (BS w (V2.alloc (.cells #[.slice y.p1.a y.p1.n y.p1.c, .slice y.p2.a y.p2.n y.p2.c, .slice y.p3.a y.p3.n y.p3.c, .slice y.p4.a y.p4.n y.p4.c] 29)) b x d a zs ∧ DBlk (V2.alloc (.cells #[.slice y.p1.a y.p1.n y.p1.c, .slice y.p2.a y.p2.n y.p2.c, .slice y.p3.a y.p3.n y.p3.c, .slice y.p4.a y.p4.n y.p4.c] 29)) V2.heap.size y ∧ DRd (V2.alloc (.cells #[.slice y.p1.a y.p1.n y.p1.c, .slice y.p2.a y.p2.n y.p2.c, .slice y.p3.a y.p3.n y.p3.c, .slice y.p4.a y.p4.n y.p4.c] 29)) y rd) := ⟨(HSn.out.go G2.out.2).go hny, heap_alloc_new _ _, G2.out.1.rd.below hny⟩
        clear hny G2 HSn
        by_cases hrc : rc = 0
        · have hrc' : (rc != 0) = false := by simp [hrc]
          have KBB := HBB.out hrc
          have KBH : Hid (∀ W y, DRd W y rd → Calls Try.prog 10 #[.int .u16 t, .agg #[.slice y.p1.a y.p1.n y.p1.c, .slice y.p2.a y.p2.n y.p2.c, .slice y.p3.a y.p3.n y.p3.c, .slice y.p4.a y.p4.n y.p4.c]] W (fun e w' => ∃ (s : Sl), e = .returned (.tuple #[.slice s.a s.n s.c, .int .i64 0]) ∧ Hid (s.n = len ∧ Rd w' s.a zs ∧ Below W.heap.size W w'))) := KBB
          clear HBB HRR KBB
          have Hrc : Hid (rc = 0) := hrc
          clear hrc
          go_upto_region 12 with fail
          generalize V2.alloc (.cells #[.slice y.p1.a y.p1.n y.p1.c, .slice y.p2.a y.p2.n y.p2.c, .slice y.p3.a y.p3.n y.p3.c, .slice y.p4.a y.p4.n y.p4.c] 29) = V3 at *
          generalize V2.heap.size = D at *
          have e0 : V3.cell? ⟨D, 0, none⟩ = some (.slice y.p1.a y.p1.n y.p1.c) := GS3.out.2.1.box.1
          have e1 : V3.cell? ⟨D, 1, none⟩ = some (.slice y.p2.a y.p2.n y.p2.c) := GS3.out.2.1.box.2.1
          have e2 : V3.cell? ⟨D, 2, none⟩ = some (.slice y.p3.a y.p3.n y.p3.c) := GS3.out.2.1.box.2.2.1
          have e3 : V3.cell? ⟨D, 3, none⟩ = some (.slice y.p4.a y.p4.n y.p4.c) := GS3.out.2.1.box.2.2.2.1
          have hDl := GS3.out.2.1.lt
          go_wp2_with fail
          refine (KBH.out _ y GS3.out.2.2).mono ?_
          rintro e V4 ⟨s4, rfl, G4⟩
          have GS4 : Hid (BS w V4 b x d a zs) := GS3.out.1.go G4.out.2.2
          have K12 : Hid (Calls Try.prog 12 #[.slice s4.a s4.n s4.c, .slice a len cap] V4 fun e w' => e = .returned (.bool true) ∧ w' = V4) := KSB.out V4 s4 G4.out.1 G4.out.2.1 GS4.out.bs
          clear KSB KBH e0 e1 e2 e3
          go_wp2_with fail
          refine K12.out.mono ?_
          rintro e V5 ⟨rfl, rfl⟩
          go_wp2_with fail
          go_ret
          exact ⟨rfl, GS4.out.bel⟩
        · have hrc' : (rc != 0) = true := by simp [hrc]
          rcases HRR.out hrc with h8 | h8
          · have HBS : Hid (BS w (V2.alloc (.cells #[.slice y.p1.a y.p1.n y.p1.c, .slice y.p2.a y.p2.n y.p2.c, .slice y.p3.a y.p3.n y.p3.c, .slice y.p4.a y.p4.n y.p4.c] 29)) b x d a zs) := GS3.out.1
            subst h8
            clear HRR HBB hrc GS3
            go_wp2_with fail
            go_ret
            exact ⟨rfl, HBS.out.bel⟩
          · have HBS : Hid (BS w (V2.alloc (.cells #[.slice y.p1.a y.p1.n y.p1.c, .slice y.p2.a y.p2.n y.p2.c, .slice y.p3.a y.p3.n y.p3.c, .slice y.p4.a y.p4.n y.p4.c] 29)) b x d a zs) := GS3.out.1
            subst h8
            clear HRR HBB hrc GS3
            go_wp2_with fail
            go_ret
            exact ⟨rfl, HBS.out.bel⟩
      · have hCb : (C == 0) = false := by simp [hC]
        have HSn : Hid (BS w W5 b x d a zs) := HS5.out
        clear HS5 HW5 HV5 KRW KS
        go_upto_region 11 with fail
        have K11 : Hid (Calls Try.prog 27 #[.int .u16 t, .slice a len cap] W5 (RdP (rd, rc) W5)) := KR.out _ HSn.out.bs
        clear KR
        go_wp2_with fail
        refine K11.out.mono ?_
        rintro e V2 ⟨y, rfl, G2⟩
        clear K11
        have hny := new_below V2 (.cells #[.slice y.p1.a y.p1.n y.p1.c, .slice y.p2.a y.p2.n y.p2.c, .slice y.p3.a y.p3.n y.p3.c, .slice y.p4.a y.p4.n y.p4.c] 29)
        have GS3 : Hid (BS w (V2.alloc (.cells #[.slice y.p1.a y.p1.n y.p1.c, .slice y.p2.a y.p2.n y.p2.c, .slice y.p3.a y.p3.n y.p3.c, .slice y.p4.a y.p4.n y.p4.c] 29)) b x d a zs ∧ DBlk (V2.alloc (.cells #[.slice y.p1.a y.p1.n y.p1.c, .slice y.p2.a y.p2.n y.p2.c, .slice y.p3.a y.p3.n y.p3.c, .slice y.p4.a y.p4.n y.p4.c] 29)) V2.heap.size y ∧ DRd (V2.alloc (.cells #[.slice y.p1.a y.p1.n y.p1.c, .slice y.p2.a y.p2.n y.p2.c, .slice y.p3.a y.p3.n y.p3.c, .slice y.p4.a y.p4.n y.p4.c] 29)) y rd) := ⟨(HSn.out.go G2.out.2).go hny, heap_alloc_new _ _, G2.out.1.rd.below hny⟩
        clear hny G2 HSn
        by_cases hrc : rc = 0
        · have hrc' : (rc != 0) = false := by simp [hrc]
          have KBB := HBB.out hrc
          have KBH : Hid (∀ W y, DRd W y rd → Calls Try.prog 10 #[.int .u16 t, .agg #[.slice y.p1.a y.p1.n y.p1.c, .slice y.p2.a y.p2.n y.p2.c, .slice y.p3.a y.p3.n y.p3.c, .slice y.p4.a y.p4.n y.p4.c]] W (fun e w' => ∃ (s : Sl), e = .returned (.tuple #[.slice s.a s.n s.c, .int .i64 0]) ∧ Hid (s.n = len ∧ Rd w' s.a zs ∧ Below W.heap.size W w'))) := KBB
          clear HBB HRR KBB
          have Hrc : Hid (rc = 0) := hrc
          clear hrc
          go_upto_region 12 with fail
          generalize V2.alloc (.cells #[.slice y.p1.a y.p1.n y.p1.c, .slice y.p2.a y.p2.n y.p2.c, .slice y.p3.a y.p3.n y.p3.c, .slice y.p4.a y.p4.n y.p4.c] 29) = V3 at *
          generalize V2.heap.size = D at *
          have e0 : V3.cell? ⟨D, 0, none⟩ = some (.slice y.p1.a y.p1.n y.p1.c) := GS3.out.2.1.box.1
          have e1 : V3.cell? ⟨D, 1, none⟩ = some (.slice y.p2.a y.p2.n y.p2.c) := GS3.out.2.1.box.2.1
          have e2 : V3.cell? ⟨D, 2, none⟩ = some (.slice y.p3.a y.p3.n y.p3.c) := GS3.out.2.1.box.2.2.1
          have e3 : V3.cell? ⟨D, 3, none⟩ = some (.slice y.p4.a y.p4.n y.p4.c) := GS3.out.2.1.box.2.2.2.1
          have hDl := GS3.out.2.1.lt
          go_wp2_with fail
          refine (KBH.out _ y GS3.out.2.2).mono ?_
          rintro e V4 ⟨s4, rfl, G4⟩
          have GS4 : Hid (BS w V4 b x d a zs) := GS3.out.1.go G4.out.2.2
          have K12 : Hid (Calls Try.prog 12 #[.slice s4.a s4.n s4.c, .slice a len cap] V4 fun e w' => e = .returned (.bool true) ∧ w' = V4) := KSB.out V4 s4 G4.out.1 G4.out.2.1 GS4.out.bs
          clear KSB KBH e0 e1 e2 e3
          go_wp2_with fail
          refine K12.out.mono ?_
          rintro e V5 ⟨rfl, rfl⟩
          go_wp2_with fail
          go_ret
          exact ⟨rfl, GS4.out.bel⟩
        · have hrc' : (rc != 0) = true := by simp [hrc]
          rcases HRR.out hrc with h8 | h8
          · have HBS : Hid (BS w (V2.alloc (.cells #[.slice y.p1.a y.p1.n y.p1.c, .slice y.p2.a y.p2.n y.p2.c, .slice y.p3.a y.p3.n y.p3.c, .slice y.p4.a y.p4.n y.p4.c] 29)) b x d a zs) := GS3.out.1
            subst h8
            clear HRR HBB hrc GS3
            go_wp2_with fail
            go_ret
            exact ⟨rfl, HBS.out.bel⟩
          · have HBS : Hid (BS w (V2.alloc (.cells #[.slice y.p1.a y.p1.n y.p1.c, .slice y.p2.a y.p2.n y.p2.c, .slice y.p3.a y.p3.n y.p3.c, .slice y.p4.a y.p4.n y.p4.c] 29)) b x d a zs) := GS3.out.1
            subst h8
            clear HRR HBB hrc GS3
            go_wp2_with fail
            go_ret
            exact ⟨rfl, HBS.out.bel⟩
end Go.Proofs.Ytdeoembjfdbbkaa
