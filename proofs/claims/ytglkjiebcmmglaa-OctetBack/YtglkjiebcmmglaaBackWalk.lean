/- The statement's function on what was written and is read again returns true and leaves what was there. -/
import Derived.Test.YtglkjiebcmmglaaOne
namespace Go.Proofs.Ytglkjiebcmmglaa
open Go.ChangeShapes Go.WideShapes Go.ChangeAt Go.RowKit
set_option linter.unusedVariables false
set_option linter.unusedSimpArgs false

/-- All that is joined: the bytes, the two of a number, the four of another. -/
def allb (zs : List Int) (r m : Int) : List Int := zs ++ (p16 r ++ p32 m)
section
variable {zs : List Int} {r m : Int} {len : Nat}
theorem allb_len (hl : zs.length = len) (hr : 0 ≤ r ∧ r ≤ 65535) : (allb zs r m).length = len + 6 := by simp [allb, hl, len_p16 r hr, p32]
theorem allb_16 (hl : zs.length = len) (hr : 0 ≤ r ∧ r ≤ 65535) : val (((allb zs r m).drop len).take 2) = r := by
  have : ((allb zs r m).drop len).take 2 = p16 r := by
    unfold allb; rw [← hl, List.drop_left, ← len_p16 r hr, List.take_left]
  rw [this, val_p16 r hr]
theorem allb_32 (hl : zs.length = len) (hr : 0 ≤ r ∧ r ≤ 65535) (hm : 0 ≤ m ∧ m < 4294967296) : val (((allb zs r m).drop (len + 2)).take 4) = m := by
  have : ((allb zs r m).drop (len + 2)).take 4 = p32 m := by
    unfold allb
    rw [← List.append_assoc, ← hl, show zs.length + 2 = (zs ++ p16 r).length by rw [List.length_append, len_p16 r hr], List.drop_left]
    rfl
  rw [this, val_p32 m hm]
theorem allb_cut (hl : zs.length = len) (q : Nat) (hq : q ≤ len) : ((allb zs r m).drop q).take (len - q) = zs.drop q := by
  unfold allb
  rw [List.drop_append_of_le_length (by omega), List.take_append_of_le_length (by simp; omega), List.take_of_length_le (by simp; omega)]
end

set_option maxRecDepth 100000 in
set_option maxHeartbeats 2000000 in
theorem back_walk (n m at_ : Int) (a : Option Addr) (len cap : Nat) (zs : List Int) (w : World) (hr : Rd w a zs) (hl : zs.length = len) (hc : len ≤ cap) (hm : cap ≤ 140737488351232) (hd : a = none → cap = 0) (hm0 : 0 ≤ m ∧ m < 4294967296) :
    Calls Try.prog 7 #[.int .i64 n, .int .u32 m, .slice a len cap, .int .i64 at_] w fun e w' => e = .returned (.bool true) ∧ Below w.heap.size w w' := by
  have HR : Hid (Rd w a zs) := hr
  have HD : Hid (a = none → cap = 0) := hd
  have HL : Hid (zs.length = len) := hl
  have HBY : Hid (∀ z ∈ zs, 0 ≤ z ∧ z ≤ 255) := hr.2
  clear hr hd hl
  go_enter Try.func7, Try.ntmps7
  go_wp2_with fail
  refine (pick_any n 65536 _ (by omega)).mono ?_
  rintro e w' ⟨⟨r, hr1, rfl⟩, rfl⟩
  go_wp2_with fail
  refine (pick_any at_ ((len : Int) + 1) _ (by omega)).mono ?_
  rintro e w0 ⟨⟨q, hq1, rfl⟩, rfl⟩
  have hr2 : 0 ≤ (r : Int) ∧ (r : Int) ≤ 65535 := by omega
  have hq : q ≤ len := by omega
  go_wp2_with fail
  refine (put16_any r 2 0 (len_p16 r hr2) (e16_ok r hr2) _).mono ?_
  rintro e w2 ⟨ax, rfl, H2⟩
  go_wp2_with fail
  refine (put32_any m hm0.1 hm0.2 _).mono ?_
  rintro e w3 ⟨az, rfl, H3⟩
  have HP : Hid (Pcs (w3.alloc (.cells #[.slice a len cap, .slice ax 2 2, .slice az 4 4] 23)) w3.heap.size [(a, cap, zs), (ax, 2, p16 r), (az, 4, p32 m)] ∧ Below w0.heap.size w0 (w3.alloc (.cells #[.slice a len cap, .slice ax 2 2, .slice az 4 4] 23))) := by
    obtain ⟨o2, l2⟩ := H2.out
    obtain ⟨o3, l3⟩ := H3.out
    have hnb := new_below w3 (.cells #[.slice a len cap, .slice ax 2 2, .slice az 4 4] 23)
    refine ⟨⟨by simp, fun k hk => ?_⟩, (l2.trans (l3.mono l2.size)).trans (hnb.mono (Nat.le_trans l2.size l3.size))⟩
    have hk' : k = 0 ∨ k = 1 ∨ k = 2 := by simp at hk; omega
    rcases hk' with rfl | rfl | rfl
    · exact ⟨by simp [go_sem, HL.out], ((HR.out.below l2).below l3).below hnb, HD.out⟩
    · refine ⟨by simp [go_sem, len_p16 r hr2], ((o2.rd).below l3).below hnb, fun e => ?_⟩
      have := o2.nil e; rw [len_p16 r hr2] at this; omega
    · refine ⟨by simp [go_sem, p32], (o3.rd).below hnb, fun e => ?_⟩
      have := o3.nil e; simp [p32] at this
  have HJ : Hid (jn [(a, cap, zs), (ax, 2, p16 r), (az, 4, p32 m)] 3 = allb zs r m) := (show _ = _ by simp [jn, allb])
  have HAL := allb_len (m := m) HL.out hr2
  have HJN : Hid (Calls Try.prog 20 #[.slice (some ⟨w3.heap.size, 0, none⟩) 3 3] (w3.alloc (.cells #[.slice a len cap, .slice ax 2 2, .slice az 4 4] 23)) fun e w' => ∃ ao ys, e = .returned (.slice ao (len + 6) ys.length) ∧ Hid (OwnA (w3.alloc (.cells #[.slice a len cap, .slice ax 2 2, .slice az 4 4] 23)).heap.size w' ao (len + 6) ys ∧ ys.take (len + 6) = allb zs r m ∧ Below (w3.alloc (.cells #[.slice a len cap, .slice ax 2 2, .slice az 4 4] 23)).heap.size (w3.alloc (.cells #[.slice a len cap, .slice ax 2 2, .slice az 4 4] 23)) w')) := by
    have := join_any w3.heap.size 3 3 [(a, cap, zs), (ax, 2, p16 r), (az, 4, p32 m)] _ rfl HP.out.1 (by omega) (by omega) (by show (jn _ 3).length ≤ _; rw [HJ.out, HAL]; omega)
    have e : jn [(a, cap, zs), (ax, 2, p16 r), (az, 4, p32 m)] [(a, cap, zs), (ax, 2, p16 r), (az, 4, p32 m)].length = allb zs r m := HJ.out
    rw [e, HAL] at this
    exact this
  have HALh : Hid ((allb zs r m).length = len + 6) := HAL
  clear HAL
  go_wp2_with fail
  refine HJN.out.mono ?_
  rintro e w5 ⟨ao, ys, rfl, H5⟩
  obtain ⟨g, hg⟩ : ∃ g, ao = some ⟨g, 0, none⟩ := by
    rcases H5.out.1 with ⟨_, h, _⟩ | ⟨g, h, _⟩
    · omega
    · exact ⟨g, h⟩
  subst hg
  have HA : Hid (Rd w5 (some ⟨g, 0, none⟩) (allb zs r m) ∧ Below w0.heap.size w0 w5 ∧ len + 6 ≤ ys.length) := by
    obtain ⟨h1, h2, h3⟩ := H5.out
    have hrd := h1.rdTake (len + 6)
    rw [h2] at hrd
    exact ⟨hrd, HP.out.2.trans (h3.mono HP.out.2.size), h1.le.1⟩
  generalize hyl : ys.length = yl at *
  have hyl6 : len + 6 ≤ yl := HA.out.2.2
  clear hyl H5 HJN HJ HP H2 H3
  have HU1 : Hid (Calls Try.prog 12 #[.slice (some ⟨g, 0, none⟩) (len + 6) yl, .int .i64 len] w5 fun e w' => e = .returned (.tuple #[.int .i64 r, .bool true]) ∧ w' = w5) := by
    have := u16_in (some ⟨g, 0, none⟩) (len + 6) yl len (allb zs r m) w5 HA.out.1 HALh.out hyl6 (by omega) (by omega)
    rw [allb_16 HL.out hr2] at this
    exact this
  have HU2 : Hid (Calls Try.prog 14 #[.slice (some ⟨g, 0, none⟩) (len + 6) yl, .int .i64 ((len : Int) + 2)] w5 fun e w' => e = .returned (.tuple #[.int .u32 m, .bool true]) ∧ w' = w5) := by
    have := u32_in (some ⟨g, 0, none⟩) (len + 6) yl (len + 2) (allb zs r m) w5 HA.out.1 HALh.out hyl6 (by omega) (by omega)
    rw [allb_32 HL.out hr2 hm0, show ((len + 2 : Nat) : Int) = (len : Int) + 2 by omega] at this
    exact this
  go_wp2_with fail
  refine HU1.out.mono ?_
  rintro e w6 ⟨rfl, rfl⟩
  go_wp2_with fail
  refine HU2.out.mono ?_
  rintro e w7 ⟨rfl, rfl⟩
  clear HU1 HU2
  have HH : Hid (Calls Try.prog 24 #[.slice a len cap] w7 fun e w' => e = .returned (.string ⟨(hexl zs).toArray⟩) ∧ Hid (Below w7.heap.size w7 w')) := hex_any a len cap zs w7 (HR.out.below HA.out.2.1) HL.out (by omega)
  have hsz : (⟨(hexl zs).toArray⟩ : ByteArray).size = 2 * len := by
    show (hexl zs).toArray.size = _
    rw [List.size_toArray, hexl_len, HL.out]
  have HSZ : Hid ((⟨(hexl zs).toArray⟩ : ByteArray).size = 2 * len) := hsz
  clear hsz
  have HOK : Hid ((∀ k, k < zs.length → okp (nums ⟨(hexl zs).toArray⟩) k) ∧ prs (nums ⟨(hexl zs).toArray⟩) zs.length = zs) := hex_ok zs HBY.out
  generalize (⟨(hexl zs).toArray⟩ : ByteArray) = s at *
  go_wp2_with fail
  refine HH.out.mono ?_
  rintro e w8 ⟨rfl, H8⟩
  by_cases hlong : 65535 < len
  · have hlong' : (65535 : Int) < (len : Int) := by omega
    go_wp2_with fail
    refine (unhex_long s _ (by have := HSZ.out; omega) (by have := HSZ.out; omega)).mono ?_
    rintro e w9 ⟨rfl, rfl⟩
    go_wp2
    go_ret
    exact ⟨rfl, HA.out.2.1.trans (H8.out.mono HA.out.2.1.size)⟩
  have HUN : Hid (Calls Try.prog 22 #[.string s] w8 fun e w' => ∃ ac cc, e = .returned (.tuple #[.slice ac len cc, .int .i64 0]) ∧ Hid (Rd w' ac zs ∧ Below w8.heap.size w8 w')) := by
    refine (unhex_even s len w8 HSZ.out (by have := HSZ.out; omega)).mono ?_
    rintro e w' (⟨⟨k, hk, hn⟩, _⟩ | ⟨_, ac, yc, rfl, h1, h2, h3⟩)
    · exact absurd (HOK.out.1 k (by rw [HL.out]; exact hk)) hn
    · have := h1.rdTake len
      rw [h2, ← HL.out, HOK.out.2] at this
      exact ⟨ac, yc.length, rfl, this, h3⟩
  have hss : (s.size : Int) = 2 * (len : Int) := by have := HSZ.out; omega
  go_wp2_with fail
  refine HUN.out.mono ?_
  rintro e w9 ⟨ac, cc, rfl, H9⟩
  have HB9 : Hid (Below w0.heap.size w0 w9 ∧ Below w7.heap.size w7 w9) := by
    have l8 := H8.out
    have l9 := H9.out.2
    exact ⟨(HA.out.2.1.trans (l8.mono HA.out.2.1.size)).trans (l9.mono (Nat.le_trans HA.out.2.1.size l8.size)), l8.trans (l9.mono l8.size)⟩
  go_wp2_with fail
  refine (same_yes a ac len cap cc zs _ (HR.out.below HB9.out.1) H9.out.1 HL.out).mono ?_
  rintro e w10 ⟨rfl, rfl⟩
  clear HUN HH HOK hss
  have HNW : Hid (Calls Try.prog 26 #[.slice (some ⟨g, 0, none⟩) (len + 6) yl] w10 fun e w' => ∃ gr a' ca, e = .returned (.pointer (some ⟨gr, 0, none⟩)) ∧ Hid (One w0.heap.size gr a' (len + 6) ca (allb zs r m) ∧ At1 w0.heap.size w0 gr a' (len + 6) ca (allb zs r m) 0 w')) := by
    have := new_any ⟨g, 0, none⟩ yl (allb zs r m) w10 (HA.out.1.below HB9.out.2) (by rw [HALh.out]; omega)
    rw [HALh.out] at this
    refine this.mono ?_
    rintro e w' ⟨gr, a', ca, rfl, H⟩
    obtain ⟨q1, q2, q3, q4, q5, q6, q7, q8⟩ := H.out
    have hsz := HB9.out.1.size
    exact ⟨gr, a', ca, rfl, ⟨HALh.out, q4, by omega, q5, q6, by omega⟩, ⟨q2, by omega⟩, q3, HB9.out.1.trans (q8.mono hsz)⟩
  go_wp2_with fail
  refine HNW.out.mono ?_
  rintro e w11 ⟨gr, a', ca, rfl, H11⟩
  clear HNW
  have HB : Hid (w0.heap.size ≤ w0.heap.size) := Nat.le_refl _
  go_wp2_with fail
  refine (one_take H11.out.1 HB.out H11.out.2 len (by omega)).mono ?_
  rintro e w12 ⟨a1, c1, rfl, H12⟩
  go_wp2_with fail
  refine (one_jump H11.out.1 HB.out H12.out.2.2.1 q (by omega)).mono ?_
  rintro e w13 ⟨rfl, H13⟩
  have HT2 : Hid (Calls Try.prog 34 #[.pointer (some ⟨gr, 0, none⟩), .int .i64 ((len : Int) - (q : Int))] w13 fun e w' => ∃ a2 c2, e = .returned (.slice a2 (len - q) c2) ∧ Hid (Rd w' a2 (zs.drop q) ∧ At1 w0.heap.size w0 gr a' (len + 6) ca (allb zs r m) len w' ∧ w13.grownBy w' (some gr))) := by
    have := one_take H11.out.1 HB.out H13.out.1 (len - q) (by omega)
    rw [show ((len - q : Nat) : Int) = (len : Int) - (q : Int) by omega, allb_cut HL.out q hq, show q + (len - q) = len by omega] at this
    refine this.mono ?_
    rintro e w' ⟨a2, c2, rfl, H⟩
    exact ⟨a2, c2, rfl, H.out.1, H.out.2.2.1, H.out.2.2.2⟩
  go_wp2_with fail
  refine HT2.out.mono ?_
  rintro e w14 ⟨a2, c2, rfl, H14⟩
  clear HT2
  have HS1 : Hid (Rd w14 a1 zs ∧ Rd w14 a zs ∧ Rd w14 a2 (zs.drop q)) := by
    have h1 := (H12.out.1.grown H13.out.2 H12.out.2.1).grown H14.out.2.2 H12.out.2.1
    have e := allb_cut (r := r) (m := m) HL.out 0 (Nat.zero_le _)
    rw [Nat.sub_zero, List.drop_zero] at e
    rw [List.drop_zero] at h1
    rw [e] at h1
    exact ⟨by simpa using h1, HR.out.below H14.out.2.1.2.2, H14.out.1⟩
  go_wp2_with fail
  refine (same_yes a1 a len c1 cap zs _ HS1.out.1 HS1.out.2.1 HL.out).mono ?_
  rintro e w15 ⟨rfl, rfl⟩
  have hq0 : (0 : Int) ≤ (q : Int) := by omega
  have hq2 : (q : Int) ≤ (len : Int) := by omega
  have hq3 : (q : Int) ≤ (cap : Int) := by omega
  clear H12 H13
  by_cases hcq : cap = q
  · have hlq : len = q := by omega
    subst hcq
    subst hlq
    clear hq0 hq2 hq3
    go_wp2_with fail
    refine (same_yes a2 a 0 c2 0 [] _ ⟨.inl rfl, by simp⟩ ⟨.inl rfl, by simp⟩ rfl).mono ?_
    rintro e w16 ⟨rfl, rfl⟩
    have HF1 : Hid (Calls Try.prog 32 #[.pointer (some ⟨gr, 0, none⟩)] w16 fun e w' => e = .returned (.int .i64 r) ∧ Hid (At1 w0.heap.size w0 gr a' (len + 6) ca (allb zs r m) (len + 2) w')) := by
      have := one_u16 H11.out.1 HB.out H14.out.2.1 (by omega)
      rw [allb_16 HL.out hr2] at this
      exact this
    go_wp2_with fail
    refine HF1.out.mono ?_
    rintro e w17 ⟨rfl, H17⟩
    have HF2 : Hid (Calls Try.prog 33 #[.pointer (some ⟨gr, 0, none⟩)] w17 fun e w' => e = .returned (.int .u32 m) ∧ Hid (At1 w0.heap.size w0 gr a' (len + 6) ca (allb zs r m) (len + 6) w')) := by
      have := one_u32 H11.out.1 HB.out H17.out (by omega)
      rw [allb_32 HL.out hr2 hm0] at this
      exact this
    go_wp2_with fail
    refine HF2.out.mono ?_
    rintro e w18 ⟨rfl, H18⟩
    have HF3 : Hid (Calls Try.prog 36 #[.pointer (some ⟨gr, 0, none⟩)] w18 fun e w' => e = .returned (.int .i64 0) ∧ Hid (At1 w0.heap.size w0 gr a' (len + 6) ca (allb zs r m) (len + 6) w')) := by
      have := one_left H11.out.1 HB.out H18.out
      rw [Int.sub_self] at this
      exact this
    go_wp2_with fail
    refine HF3.out.mono ?_
    rintro e w19 ⟨rfl, H19⟩
    go_wp2_with fail
    refine (one_bad H11.out.1 HB.out H19.out).mono ?_
    rintro e w20 ⟨rfl, H20⟩
    have HF5 : Hid (Calls Try.prog 35 #[.pointer (some ⟨gr, 0, none⟩)] w20 fun e w' => e = .returned (.int .i64 ((len : Int) + 6)) ∧ Hid (At1 w0.heap.size w0 gr a' (len + 6) ca (allb zs r m) (len + 6) w')) := by
      have := one_at H11.out.1 HB.out H20.out
      rw [show ((len + 6 : Nat) : Int) = (len : Int) + 6 by omega] at this
      exact this
    go_wp2_with fail
    refine HF5.out.mono ?_
    rintro e w21 ⟨rfl, H21⟩
    go_wp2
    go_ret
    exact ⟨rfl, H21.out.2.2⟩
  · have HR2 : Hid (Rd w15 (Option.map (fun x => x.add q) a) (zs.drop q) ∧ (zs.drop q).length = len - q) := by
      have h1 := HS1.out.2.1.cut q (len - q) (by rw [HL.out]; omega) (a' := Option.map (fun x => x.add q) a) (fun h b' o e => by subst e; simp [Addr.add])
      rw [List.take_of_length_le (by rw [List.length_drop, HL.out]; exact Nat.le_refl _)] at h1
      exact ⟨h1, by rw [List.length_drop, HL.out]⟩
    go_wp2_with fail
    refine (same_yes a2 _ (len - q) c2 (cap - q) (zs.drop q) _ HS1.out.2.2 HR2.out.1 HR2.out.2).mono ?_
    rintro e w16 ⟨rfl, rfl⟩
    have HF1 : Hid (Calls Try.prog 32 #[.pointer (some ⟨gr, 0, none⟩)] w16 fun e w' => e = .returned (.int .i64 r) ∧ Hid (At1 w0.heap.size w0 gr a' (len + 6) ca (allb zs r m) (len + 2) w')) := by
      have := one_u16 H11.out.1 HB.out H14.out.2.1 (by omega)
      rw [allb_16 HL.out hr2] at this
      exact this
    go_wp2_with fail
    refine HF1.out.mono ?_
    rintro e w17 ⟨rfl, H17⟩
    have HF2 : Hid (Calls Try.prog 33 #[.pointer (some ⟨gr, 0, none⟩)] w17 fun e w' => e = .returned (.int .u32 m) ∧ Hid (At1 w0.heap.size w0 gr a' (len + 6) ca (allb zs r m) (len + 6) w')) := by
      have := one_u32 H11.out.1 HB.out H17.out (by omega)
      rw [allb_32 HL.out hr2 hm0] at this
      exact this
    go_wp2_with fail
    refine HF2.out.mono ?_
    rintro e w18 ⟨rfl, H18⟩
    have HF3 : Hid (Calls Try.prog 36 #[.pointer (some ⟨gr, 0, none⟩)] w18 fun e w' => e = .returned (.int .i64 0) ∧ Hid (At1 w0.heap.size w0 gr a' (len + 6) ca (allb zs r m) (len + 6) w')) := by
      have := one_left H11.out.1 HB.out H18.out
      rw [Int.sub_self] at this
      exact this
    go_wp2_with fail
    refine HF3.out.mono ?_
    rintro e w19 ⟨rfl, H19⟩
    go_wp2_with fail
    refine (one_bad H11.out.1 HB.out H19.out).mono ?_
    rintro e w20 ⟨rfl, H20⟩
    have HF5 : Hid (Calls Try.prog 35 #[.pointer (some ⟨gr, 0, none⟩)] w20 fun e w' => e = .returned (.int .i64 ((len : Int) + 6)) ∧ Hid (At1 w0.heap.size w0 gr a' (len + 6) ca (allb zs r m) (len + 6) w')) := by
      have := one_at H11.out.1 HB.out H20.out
      rw [show ((len + 6 : Nat) : Int) = (len : Int) + 6 by omega] at this
      exact this
    go_wp2_with fail
    refine HF5.out.mono ?_
    rintro e w21 ⟨rfl, H21⟩
    go_wp2
    go_ret
    exact ⟨rfl, H21.out.2.2⟩
end Go.Proofs.Ytglkjiebcmmglaa
