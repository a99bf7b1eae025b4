/- Texts laid together: Hg Hh Hi Fg Fh Fi Ra Ga Gb Gc Gd Ge Nxl. -/
import Derived.Test.YtfkfjodfjgjbkaaGreatDoorWqg
import Derived.Deep.RegionLaw
import Derived.Deep.QuietTactic
import Derived.BigQuiet
/- The program's data: names, numbers, texts written one behind the other. -/
namespace Go.Proofs.YtfkfjodfjgjbkaaGreatDoor
open Go.ChangeShapes Go.WideShapes Go.ChangeAt Go.RowKit
set_option linter.unusedVariables false
set_option linter.unusedSimpArgs false


theorem pnbytes_rd (a : Option Addr) (n c : Nat) (ss : List ByteArray) (w : World) (h : Nm w a n ss) (hk : nck ss = 0) :
    Calls Tryz.prog 122 #[.slice a n c] w fun e w' => ∃ ao cc, e = .returned (.tuple #[.slice ao (nmB ss).length cc, .int .i64 0]) ∧ Hid (Rd w' ao (nmB ss) ∧ (ao = none → cc = 0) ∧ Below w.heap.size w w') := by
  have hp : nbytes ss = (nmB ss, 0) := by unfold nbytes; rw [if_pos hk]; rfl
  have := pbytes_any a n c ss w h
  rw [hp] at this
  refine this.mono ?_
  rintro e w' ⟨v, ys, rfl, H⟩
  obtain ⟨h1, h2, h3⟩ := H.out
  simp only at h1 h2
  obtain ⟨ao, rfl, hoa⟩ := h1.addr
  have hrd := hoa.rdTake (nmB ss).length
  rw [h2] at hrd
  refine ⟨ao, ys.length, rfl, hrd, ?_, h3⟩
  rintro rfl
  have := rd_none hrd
  simp [nmB] at this
set_option maxRecDepth 100000 in
set_option maxHeartbeats 2000000 in
theorem putnames_any (W3 w : World) (v : Value) (m : Nat) (L : List Int) (s : Sl) (nss : List (List ByteArray)) (hg : Gr W3 w v m L) (hn : NRd W3 s nss) (hk : ∀ n ∈ nss, nck n = 0) (T : Nat) (R : List Int) (hT : m + (nss.flatMap nmB).length = T) (hR : L ++ nss.flatMap nmB = R) (hm : T ≤ 65535) :
    Calls Tryz.prog 90 #[v, .slice s.a s.n s.c] w fun e w' => ∃ v', e = .returned v' ∧ Hid (Gr W3 w' v' T R) := by
  obtain ⟨a1, n1, k1⟩ := s
  have HN : Hid (NRd W3 ⟨a1, n1, k1⟩ nss ∧ ∀ n ∈ nss, nck n = 0) := ⟨hn, hk⟩
  have HL : Hid (nss.length = n1) := hn.len
  have hc1 : n1 ≤ 9223372036854775807 := Nat.le_trans hn.cap.1 hn.cap.2
  have HM : Hid (m + (nss.flatMap nmB).length ≤ 65535) := by show _ ≤ _; omega
  have HTR : Hid (m + (nss.flatMap nmB).length = T ∧ L ++ nss.flatMap nmB = R) := ⟨hT, hR⟩
  have HG0 : Hid (Gr W3 w v m (L ++ (nss.take 0).flatMap nmB)) := by show Gr _ _ _ _ _; simpa using hg
  have hm0 : m ≤ 65535 := by omega
  clear hg hn hk hm hT hR
  simp only
  go_enter Tryz.func90, Tryz.ntmps90
  go_wp2_with fail
  go_loopw [0, 11] (fun v i wr => ∃ k q : Nat, k ≤ n1 ∧ q ≤ 65535 ∧ i = .int .i64 (k : Int) ∧ Hid (Gr W3 wr v q (L ++ (nss.take k).flatMap nmB)) ∧ Hid (q = m + ((nss.take k).flatMap nmB).length)) (fun _ i _ => n1 - (intOf i).toNat)
  case atStart => exact ⟨0, m, Nat.zero_le _, hm0, rfl, HG0, by show _ = _; simp⟩
  case round =>
    obtain ⟨k, q, hkn, hq, rfl, HG, HQ⟩ := hrel
    clear HG0
    by_cases hlt : k < n1
    · have hlt' : (k : Int) < (n1 : Int) := by omega
      have hki : k < nss.length := by rw [HL.out]; exact hlt
      obtain ⟨B1, o1, ha1, hl1, z1, hz1, hr1⟩ := (HN.out.1.below HG.out.bel).at k hki
      simp only at ha1
      subst ha1
      have hk0 := HN.out.2 _ (List.getElem_mem hki)
      have KB : Hid (∀ W, W = wr → Calls Tryz.prog 122 #[.slice z1.a z1.n z1.c] W fun e w' => ∃ ao cc, e = .returned (.tuple #[.slice ao (nmB nss[k]).length cc, .int .i64 0]) ∧ Hid (Rd w' ao (nmB nss[k]) ∧ (ao = none → cc = 0) ∧ Below W.heap.size W w')) := by
        intro W e
        subst e
        exact pnbytes_rd z1.a z1.n z1.c nss[k] W ⟨hr1.rd, hr1.len, by have := (nck_small hk0).1; omega⟩ hk0
      have HE0 : (nss.take (k + 1)).flatMap nmB = (nss.take k).flatMap nmB ++ nmB nss[k] := flat_snoc nmB nss k hki
      have HE : Hid (L ++ (nss.take (k + 1)).flatMap nmB = L ++ (nss.take k).flatMap nmB ++ nmB nss[k]) := by
        show _ = _
        rw [HE0, List.append_assoc]
      have HQ2 : Hid (q + (nmB nss[k]).length = m + ((nss.take (k + 1)).flatMap nmB).length) := by
        show _ = _
        rw [HE0, List.length_append, HQ.out]
        omega
      have hq2 : q + (nmB nss[k]).length ≤ 65535 := by
        have h1 := HQ2.out
        have h2 := flat_take nmB nss (k + 1)
        have h3 := HM.out
        omega
      clear hr1 hk0 HE0 HQ
      generalize nmB nss[k] = nb at *
      generalize hql : nb.length = ql at *
      have HQl : Hid (nb.length = ql) := hql
      clear hql
      generalize z1.a = za at *
      generalize z1.n = zn at *
      generalize z1.c = zc at *
      go_wp2_with fail
      refine (KB.out _ rfl).mono ?_
      rintro e W5 ⟨ao, cc, rfl, H5⟩
      have HG5 : Hid (Gr W3 W5 u0 q (L ++ (nss.take k).flatMap nmB)) := HG.out.go H5.out.2.2
      go_wp2_with (at_builtin; refine wp_gr W3 _ rfl _ _ rfl u0 q (L ++ (nss.take k).flatMap nmB) rfl HG5.out ao ql cc nb rfl H5.out.1 HQl.out H5.out.2.1 (by omega) ?_; intro v6 W6 HG6)
      refine ⟨⟨k + 1, q + ql, by omega, hq2, by go_num, ?_, HQ2⟩, by simp [intOf]; omega⟩
      have := HG6.out
      rw [← HE.out] at this
      exact this
    · have hge : ¬ (k : Int) < (n1 : Int) := by omega
      have HG2 : Hid (Gr W3 wr u0 T R) := by
        have h1 := HG.out
        have h2 := HQ.out
        rw [List.take_of_length_le (by rw [HL.out]; omega)] at h1 h2
        rw [h2, HTR.out.1, HTR.out.2] at h1
        exact h1
      clear HG HQ
      go_wp2_with fail
      go_ret
      exact ⟨_, rfl, HG2⟩
set_option maxRecDepth 100000 in
set_option maxHeartbeats 2000000 in
theorem putnums_any (W3 w : World) (v : Value) (m : Nat) (L : List Int) (s : Sl) (us : List Nat) (wd : Nat) (hg : Gr W3 w v m L) (hn : URd W3 s us) (hk : ∀ n ∈ us, n ≤ most wd ∧ (wd = 1 ∨ wd = 2 ∨ wd = 4)) (T : Nat) (R : List Int) (hT : m + (us.flatMap (fun n => numB n wd)).length = T) (hR : L ++ us.flatMap (fun n => numB n wd) = R) (hm : T ≤ 65535) :
    Calls Tryz.prog 91 #[v, .slice s.a s.n s.c, .int .i64 wd] w fun e w' => ∃ v', e = .returned v' ∧ Hid (Gr W3 w' v' T R) := by
  obtain ⟨a1, n1, k1⟩ := s
  have HN : Hid (URd W3 ⟨a1, n1, k1⟩ us ∧ ∀ n ∈ us, n ≤ most wd ∧ (wd = 1 ∨ wd = 2 ∨ wd = 4)) := ⟨hn, hk⟩
  have HL : Hid (us.length = n1) := hn.len
  have hc1 : n1 ≤ 9223372036854775807 := Nat.le_trans hn.cap.1 hn.cap.2
  have HM : Hid (m + (us.flatMap (fun n => numB n wd)).length ≤ 65535) := by show _ ≤ _; omega
  have HTR : Hid (m + (us.flatMap (fun n => numB n wd)).length = T ∧ L ++ us.flatMap (fun n => numB n wd) = R) := ⟨hT, hR⟩
  have HG0 : Hid (Gr W3 w v m (L ++ (us.take 0).flatMap (fun n => numB n wd))) := by show Gr _ _ _ _ _; simpa using hg
  have hm0 : m ≤ 65535 := by omega
  clear hg hn hk hm hT hR
  simp only
  go_enter Tryz.func91, Tryz.ntmps91
  go_wp2_with fail
  go_loopw [0, 12] (fun v i wr => ∃ k q : Nat, k ≤ n1 ∧ q ≤ 65535 ∧ i = .int .i64 (k : Int) ∧ Hid (Gr W3 wr v q (L ++ (us.take k).flatMap (fun n => numB n wd))) ∧ Hid (q = m + ((us.take k).flatMap (fun n => numB n wd)).length)) (fun _ i _ => n1 - (intOf i).toNat)
  case atStart => exact ⟨0, m, Nat.zero_le _, hm0, rfl, HG0, by show _ = _; simp⟩
  case round =>
    obtain ⟨k, q, hkn, hq, rfl, HG, HQ⟩ := hrel
    clear HG0
    by_cases hlt : k < n1
    · have hlt' : (k : Int) < (n1 : Int) := by omega
      have hki : k < us.length := by rw [HL.out]; exact hlt
      obtain ⟨B1, o1, ha1, hl1, hz1⟩ := (HN.out.1.below HG.out.bel).at k hki
      simp only at ha1
      subst ha1
      obtain ⟨hu1, hu2⟩ := HN.out.2 _ (List.getElem_mem hki)
      have hub := HN.out.1.bd _ (List.getElem_mem hki)
      have HE0 : (us.take (k + 1)).flatMap (fun n => numB n wd) = (us.take k).flatMap (fun n => numB n wd) ++ numB us[k] wd := flat_snoc (fun n => numB n wd) us k hki
      have HE : Hid (L ++ (us.take (k + 1)).flatMap (fun n => numB n wd) = L ++ (us.take k).flatMap (fun n => numB n wd) ++ numB us[k] wd) := by
        show _ = _
        rw [HE0, List.append_assoc]
      have HNL : Hid ((numB us[k] wd).length = wd) := numB_len _ _ hu2
      have HQ2 : Hid (q + wd = m + ((us.take (k + 1)).flatMap (fun n => numB n wd)).length) := by
        show _ = _
        rw [HE0, List.length_append, HQ.out, HNL.out]
        omega
      have hq2 : q + wd ≤ 65535 := by
        have h1 := HQ2.out
        have h2 := flat_take (fun n => numB n wd) us (k + 1)
        have h3 := HM.out
        omega
      have HNB : Hid ([(us[k] : Int) / 16777216, (us[k] : Int) / 65536 % 256, (us[k] : Int) / 256 % 256, (us[k] : Int) % 256].drop (4 - wd) = numB us[k] wd) := by
        show _ = _
        rcases hu2 with rfl | rfl | rfl
        · simp [most] at hu1; simp [numB]; omega
        · simp [most] at hu1; simp [numB]; omega
        · simp [most] at hu1; simp [numB]
      clear HE0 HQ hu1
      generalize us[k] = u at *
      have hu0 : (0 : Int) ≤ (u : Int) := by omega
      have hu4 : (u : Int) < 4294967296 := by omega
      have hw4 : (4 : Int) - (wd : Int) = ((4 - wd : Nat) : Int) := by omega
      go_wp2_with fail
      refine (put32_yes (u : Int) _ hu0 hu4).mono ?_
      rintro e W5 ⟨rfl, rfl⟩
      have hr := four_rd wr ((u : Int) / 16777216) ((u : Int) / 65536 % 256) ((u : Int) / 256 % 256) ((u : Int) % 256) (by omega) (by omega) (by omega) (by omega)
      have HR5 : Hid (Rd (wr.alloc (.cells #[.int .u8 ((u : Int) / 16777216), .int .u8 ((u : Int) / 65536 % 256), .int .u8 ((u : Int) / 256 % 256), .int .u8 ((u : Int) % 256)] 5)) (some ⟨wr.heap.size, 4 - wd, none⟩) (numB u wd)) := by
        have hc := rd_drop hr (4 - wd)
        rw [Nat.zero_add, HNB.out] at hc
        exact hc
      have HG5 : Hid (Gr W3 (wr.alloc (.cells #[.int .u8 ((u : Int) / 16777216), .int .u8 ((u : Int) / 65536 % 256), .int .u8 ((u : Int) / 256 % 256), .int .u8 ((u : Int) % 256)] 5)) u0 q (L ++ (us.take k).flatMap (fun n => numB n wd))) := HG.out.go ((Below.refl _ _).alloc (Nat.le_refl _) _)
      clear hr HNB
      generalize hWW : wr.alloc (.cells #[.int .u8 ((u : Int) / 16777216), .int .u8 ((u : Int) / 65536 % 256), .int .u8 ((u : Int) / 256 % 256), .int .u8 ((u : Int) % 256)] 5) = W5 at *
      clear hWW
      generalize numB u wd = nb at *
      have HNL2 : Hid (nb.length = 4 - (4 - wd)) := by show _ = _; have := HNL.out; omega
      have e44 : 4 - (4 - wd) = wd := by omega
      have HQ3 : Hid (q + (4 - (4 - wd)) = m + ((us.take (k + 1)).flatMap (fun n => numB n wd)).length) := by rw [e44]; exact HQ2
      have hq3 : q + (4 - (4 - wd)) ≤ 65535 := by omega
      have hwd : 1 ≤ wd ∧ wd ≤ 4 := by omega
      clear hu2 HQ2 HNL e44
      go_wp2_with (at_builtin; refine wp_gr W3 _ rfl _ _ rfl u0 q (L ++ (us.take k).flatMap (fun n => numB n wd)) rfl HG5.out _ _ _ nb rfl HR5.out HNL2.out (fun e => by cases e) (by omega) ?_; intro v6 W6 HG6)
      refine ⟨⟨k + 1, q + (4 - (4 - wd)), by omega, hq3, by go_num, ?_, HQ3⟩, by simp [intOf]; omega⟩
      have := HG6.out
      rw [← HE.out] at this
      exact this
    · have hge : ¬ (k : Int) < (n1 : Int) := by omega
      have HG2 : Hid (Gr W3 wr u0 T R) := by
        have h1 := HG.out
        have h2 := HQ.out
        rw [List.take_of_length_le (by rw [HL.out]; omega)] at h1 h2
        rw [h2, HTR.out.1, HTR.out.2] at h1
        exact h1
      clear HG HQ
      go_wp2_with fail
      go_ret
      exact ⟨_, rfl, HG2⟩
end Go.Proofs.YtfkfjodfjgjbkaaGreatDoor
/- The program's data: texts written one behind the other. -/
namespace Go.Proofs.YtfkfjodfjgjbkaaGreatDoor
open Go.ChangeShapes Go.WideShapes Go.ChangeAt Go.RowKit
set_option linter.unusedVariables false
set_option linter.unusedSimpArgs false


/-- Texts written: the first k with their lengths. -/
def ptB (k : Nat) (l : List ByteArray) : List Int := nby (l.take k) ++ (l.drop k).flatMap nums
theorem ptB_snoc (k : Nat) (m : List ByteArray) (s : ByteArray) : ptB k (m ++ [s]) = ptB k m ++ (if m.length < k then [(s.size : Int)] else []) ++ nums s := by
  unfold ptB
  by_cases h : m.length < k
  · rw [if_pos h, List.take_of_length_le (by simp; omega), List.drop_eq_nil_of_le (by simp; omega), List.take_of_length_le (by omega), List.drop_eq_nil_of_le (by omega), nby_snoc]
    simp
  · rw [if_neg h, List.take_append_of_le_length (by omega), List.drop_append_of_le_length (by omega), List.flatMap_append]
    simp
theorem ptB_len (k : Nat) (l : List ByteArray) : (ptB k l).length = (l.map ByteArray.size).sum + min k l.length := by
  have h1 : ∀ l : List ByteArray, (nby l).length = (l.map ByteArray.size).sum + l.length := by
    intro l
    induction l with
    | nil => simp [nby]
    | cons a l ih =>
      have e : nby (a :: l) = (a.size : Int) :: (nums a ++ nby l) := by simp [nby]
      rw [e]
      simp [ih, nums_len]
      omega
  have h2 : ∀ l : List ByteArray, (l.flatMap nums).length = (l.map ByteArray.size).sum := by
    intro l
    induction l with
    | nil => simp
    | cons a l ih => rw [List.flatMap_cons, List.length_append, ih, nums_len]; simp
  unfold ptB
  rw [List.length_append, h1, h2, List.length_take]
  have h3 : (l.map ByteArray.size).sum = ((l.take k).map ByteArray.size).sum + ((l.drop k).map ByteArray.size).sum := by
    conv => lhs; rw [← List.take_append_drop k l, List.map_append, List.sum_append]
  omega
theorem ptB_take (k j : Nat) (l : List ByteArray) : (ptB k (l.take j)).length ≤ (ptB k l).length := by
  rw [ptB_len, ptB_len, List.map_take, List.length_take]
  have := sum_take' (l.map ByteArray.size) j
  omega
set_option maxRecDepth 100000 in
set_option maxHeartbeats 2000000 in
theorem puttexts_any (W3 w : World) (v : Value) (m : Nat) (L : List Int) (s : Sl) (ss : List ByteArray) (tl kk : Nat) (hg : Gr W3 w v m L) (hn : TRd W3 s ss) (htl : tl ≤ s.n) (hkk : kk = s.n - tl) (hk : ∀ i (h : i < ss.length), i < kk → ss[i].size ≤ 255) (T : Nat) (R : List Int) (hT : m + (ptB kk ss).length = T) (hR : L ++ ptB kk ss = R) (hm : T ≤ 65535) :
    Calls Tryz.prog 92 #[v, .slice s.a s.n s.c, .int .i64 tl] w fun e w' => ∃ v', e = .returned v' ∧ Hid (Gr W3 w' v' T R) := by
  obtain ⟨a1, n1, k1⟩ := s
  simp only at htl hkk
  have HN : Hid (TRd W3 ⟨a1, n1, k1⟩ ss ∧ ∀ i (h : i < ss.length), i < kk → ss[i].size ≤ 255) := ⟨hn, hk⟩
  have HL : Hid (ss.length = n1) := hn.len
  have hc1 : n1 ≤ 9223372036854775807 := Nat.le_trans hn.cap.1 hn.cap.2
  have HM : Hid (m + (ptB kk ss).length ≤ 65535) := by show _ ≤ _; omega
  have HTR : Hid (m + (ptB kk ss).length = T ∧ L ++ ptB kk ss = R) := ⟨hT, hR⟩
  have HG0 : Hid (Gr W3 w v m (L ++ ptB kk (ss.take 0))) := by show Gr _ _ _ _ _; simpa [ptB, nby] using hg
  have hm0 : m ≤ 65535 := by omega
  have hki : (n1 : Int) - (tl : Int) = (kk : Int) := by omega
  have hkw : IntKind.i64.wrap ((n1 : Int) - (tl : Int)) = (kk : Int) := by rw [hki, IntKind.wrap_i64]; omega
  clear hg hn hk hm hT hR hki hkk htl
  simp only
  go_enter Tryz.func92, Tryz.ntmps92
  go_wp2_with fail
  go_loopw [0, 11] (fun v i wr => ∃ k q : Nat, k ≤ n1 ∧ q ≤ 65535 ∧ i = .int .i64 (k : Int) ∧ Hid (Gr W3 wr v q (L ++ ptB kk (ss.take k))) ∧ Hid (q = m + (ptB kk (ss.take k)).length)) (fun _ i _ => n1 - (intOf i).toNat)
  case atStart => exact ⟨0, m, Nat.zero_le _, hm0, rfl, HG0, by show _ = _; simp [ptB, nby]⟩
  case round =>
    obtain ⟨k, q, hkn, hq, rfl, HG, HQ⟩ := hrel
    clear HG0
    by_cases hlt : k < n1
    · have hlt' : (k : Int) < (n1 : Int) := by omega
      have hki : k < ss.length := by rw [HL.out]; exact hlt
      obtain ⟨B1, o1, ha1, hl1, hz1⟩ := (HN.out.1.below HG.out.bel).rd.at k hki
      simp only at ha1
      subst ha1
      have hszk := HN.out.2 k hki
      have HE0 : ptB kk (ss.take (k + 1)) = ptB kk (ss.take k) ++ (if k < kk then [(ss[k].size : Int)] else []) ++ nums ss[k] := by
        rw [List.take_succ_eq_append_getElem hki, ptB_snoc, List.length_take, Nat.min_eq_left (by omega)]
      have hbd := ptB_take kk (k + 1) ss
      generalize ss[k] = s at *
      by_cases hkk : k < kk
      · have hkk' : (k : Int) < (kk : Int) := by omega
        have hs255 := hszk hkk
        rw [if_pos hkk] at HE0
        have HE : Hid (L ++ ptB kk (ss.take (k + 1)) = L ++ ptB kk (ss.take k) ++ [(s.size : Int)] ++ nums s) := by
          show _ = _
          rw [HE0]; simp only [List.append_assoc]
        have HQ2 : Hid (q + 1 + s.size = m + (ptB kk (ss.take (k + 1))).length) := by
          show _ = _
          rw [HE0, List.length_append, List.length_append, HQ.out, nums_len]
          simp only [List.length_cons, List.length_nil]
          omega
        have hq2 : q + 1 + s.size ≤ 65535 := by have h1 := HQ2.out; have h3 := HM.out; omega
        have HG5 : Hid (Gr W3 (wr.alloc (.cells #[.int .u8 (s.size : Int)] 5)) u0 q (L ++ ptB kk (ss.take k))) := HG.out.go ((Below.refl _ _).alloc (Nat.le_refl _) _)
        have HR5 : Hid (Rd (wr.alloc (.cells #[.int .u8 (s.size : Int)] 5)) (some ⟨wr.heap.size, 0, none⟩) [(s.size : Int)]) := new_rd wr _ (by omega)
        have hmod : (s.size : Int) % 256 = (s.size : Int) := by omega
        clear HE0 HQ hbd hszk
        go_wp2_with (at_builtin; first
          | (refine wp_gr W3 _ rfl _ _ rfl u0 q (L ++ ptB kk (ss.take k)) rfl HG5.out (some ⟨wr.heap.size, 0, none⟩) 1 1 [(s.size : Int)] rfl HR5.out rfl (by simp) (by omega) ?_; intro v6 W6 HG6)
          | (refine wp_grs W3 _ rfl _ _ rfl _ (q + 1) (L ++ ptB kk (ss.take k) ++ [(s.size : Int)]) rfl HG6.out s rfl (by omega) ?_; intro v7 W7 HG7))
        refine ⟨⟨k + 1, q + 1 + s.size, by omega, hq2, by go_num, ?_, HQ2⟩, by simp [intOf]; omega⟩
        have := HG7.out
        rw [← HE.out] at this
        exact this
      · have hkk' : ¬ (k : Int) < (kk : Int) := by omega
        rw [if_neg hkk, List.append_nil] at HE0
        have HE : Hid (L ++ ptB kk (ss.take (k + 1)) = L ++ ptB kk (ss.take k) ++ nums s) := by
          show _ = _
          rw [HE0]; simp only [List.append_assoc]
        have HQ2 : Hid (q + s.size = m + (ptB kk (ss.take (k + 1))).length) := by
          show _ = _
          rw [HE0, List.length_append, HQ.out, nums_len]
          omega
        have hq2 : q + s.size ≤ 65535 := by have h1 := HQ2.out; have h3 := HM.out; omega
        clear HE0 HQ hbd hszk
        go_wp2_with (at_builtin; refine wp_grs W3 _ rfl _ _ rfl u0 q (L ++ ptB kk (ss.take k)) rfl HG.out s rfl (by omega) ?_; intro v7 W7 HG7)
        refine ⟨⟨k + 1, q + s.size, by omega, hq2, by go_num, ?_, HQ2⟩, by simp [intOf]; omega⟩
        have := HG7.out
        rw [← HE.out] at this
        exact this
    · have hge : ¬ (k : Int) < (n1 : Int) := by omega
      have HG2 : Hid (Gr W3 wr u0 T R) := by
        have h1 := HG.out
        have h2 := HQ.out
        rw [List.take_of_length_le (by rw [HL.out]; omega)] at h1 h2
        rw [h2, HTR.out.1, HTR.out.2] at h1
        exact h1
      clear HG HQ
      go_wp2_with fail
      go_ret
      exact ⟨_, rfl, HG2⟩
theorem ptB_all (l : List ByteArray) : ptB (l.length - 0) l = nby l := by unfold ptB; simp
/-- What the program writes is what the document writes. -/
theorem wr_eq (t : Nat) (d : Dat) (h : fitsB t d = true) : d.ns.flatMap nmB = (d.ns.take (fs t).nf).flatMap nmB ++ (d.ns.drop (fs t).nf).flatMap nmB ∧ (fs t).nf ≤ d.ns.length ∧ ((fs t).nf = 0 ∨ (fs t).nf = d.ns.length) ∧ (fs t).wd = (shp t).wd ∧ (fs t).tl ≤ d.ts.length ∧
    (d.ns.take (fs t).nf).flatMap nmB ++ d.us.flatMap (fun n => numB n (fs t).wd) ++ (d.ns.drop (fs t).nf).flatMap nmB ++ ptB (d.ts.length - (fs t).tl) d.ts ++ d.raw = writeF t d := by
  refine ⟨by conv => lhs; rw [← List.take_append_drop (fs t).nf d.ns, List.flatMap_append], ?_⟩
  obtain ⟨fns, fus, fts, ft1, fraw, fun_, ftx, ftg⟩ := (fit_iff t d).1 h
  obtain ⟨ns, us, ts, raw⟩ := d
  simp only at fns fus fts ft1 fraw fun_ ftx ftg ⊢
  rcases fs_cases t with ⟨ht, e⟩ | ⟨ht, e⟩ | ⟨ht, e⟩ | ⟨ht, e⟩ | ⟨ht, e⟩ | ⟨ht, e⟩ | ⟨ht, e⟩ | ⟨ht, e⟩ | ⟨ht, e⟩
  · subst ht
    have hts : ts = [] := nil_of (by have e2 : (shp 1).nt = 0 := rfl; omega)
    subst hts
    rw [e]; simp [writeF, tsB, ptB, nby, shp]
  · subst ht
    have hts : ts = [] := nil_of (by have e2 : (shp 28).nt = 0 := rfl; omega)
    subst hts
    rw [e]; simp [writeF, tsB, ptB, nby, shp]
  · rcases ht with rfl | rfl | rfl
    · have hts : ts = [] := nil_of (by have e2 : (shp 2).nt = 0 := rfl; omega)
      subst hts
      rw [e]; simp [writeF, tsB, ptB, nby, shp]
    · have hts : ts = [] := nil_of (by have e2 : (shp 5).nt = 0 := rfl; omega)
      subst hts
      rw [e]; simp [writeF, tsB, ptB, nby, shp]
    · have hts : ts = [] := nil_of (by have e2 : (shp 12).nt = 0 := rfl; omega)
      subst hts
      rw [e]; simp [writeF, tsB, ptB, nby, shp]
  · subst ht
    have hts : ts = [] := nil_of (by have e2 : (shp 6).nt = 0 := rfl; omega)
    have hrw : raw = [] := nil_of (by have e2 : (shp 6).nr = 0 := rfl; omega)
    have hns : ns.length = 2 := fns
    subst hts
    subst hrw
    rw [e]
    refine ⟨by simp; omega, .inr (by simp; omega), rfl, by simp, ?_⟩
    simp only
    rw [List.take_of_length_le (by omega), List.drop_eq_nil_of_le (by omega)]
    simp [writeF, ptB, nby]
  · subst ht
    have hts : ts = [] := nil_of (by have e2 : (shp 15).nt = 0 := rfl; omega)
    subst hts
    rw [e]; simp [writeF, tsB, ptB, nby, shp]
  · subst ht
    have hts : ts = [] := nil_of (by have e2 : (shp 33).nt = 0 := rfl; omega)
    subst hts
    rw [e]; simp [writeF, tsB, ptB, nby, shp]
  · subst ht
    rw [e]; simp [writeF, tsB, ptB, nby, shp]
  · subst ht
    have h2 : ts.length = 2 := by have e2 : (shp 257).nt = 2 := rfl; omega
    rcases ts with _ | ⟨a, _ | ⟨b, _ | ⟨c, ts⟩⟩⟩
    · simp at h2
    · simp at h2
    · rw [e]; simp [writeF, tsB, ptB, nby, shp]
    · simp at h2
  · obtain ⟨h1, h2, h3, h4, h5, h6, h7, h8, h9, h10⟩ := ht
    have es' : shp t = ⟨0, 0, 0, -1, 0⟩ := by unfold shp; simp [h1, h2, h3, h4, h5, h6, h7, h8, h9, h10]
    rw [es'] at fts fns fus
    have hts : ts = [] := nil_of (by simp only at fts; omega)
    subst hts
    rw [e, es']
    simp [writeF, tsB, ptB, nby, h6, es']
end Go.Proofs.YtfkfjodfjgjbkaaGreatDoor
/- The program's data: their bytes. -/
namespace Go.Proofs.YtfkfjodfjgjbkaaGreatDoor
open Go.ChangeShapes Go.WideShapes Go.ChangeAt Go.RowKit
set_option linter.unusedVariables false
set_option linter.unusedSimpArgs false


/-- Bytes of one's own. -/
def WPost (L : List Int) (w : World) (e : Ending) (w' : World) : Prop := ∃ (s : Sl), e = .returned (.slice s.a s.n s.c) ∧ Hid (s.n = L.length ∧ Rd w' s.a L ∧ s.n ≤ s.c ∧ s.c ≤ 9223372036854775807 ∧ (s.a = none → s.c = 0) ∧ Below w.heap.size w w')
theorem Gr.post {w W3 w' : World} {v : Value} {m : Nat} {L : List Int} (h : Gr W3 w' v m L) (hb : Below w.heap.size w W3) : WPost L w (.returned v) w' := by
  obtain ⟨ys, h1, h2, h3, h4⟩ := h
  obtain ⟨ao, rfl, hoa⟩ := h1.addr
  have hrd := hoa.rdTake m
  rw [h2] at hrd
  have hle := hoa.le
  refine ⟨⟨ao, m, ys.length⟩, rfl, h3.symm, hrd, hle.1, by have := hle.2; simp only [maxLen] at this; exact this, fun e => hoa.nil e, hb.trans (h4.mono hb.size)⟩
theorem NRd.front {w : World} {s : Sl} {nss : List (List ByteArray)} (h : NRd w s nss) (k : Nat) (hk : k ≤ s.n) : NRd w ⟨s.a, k, s.c⟩ (nss.take k) := by
  refine ⟨?_, by rw [List.length_take, h.len]; exact Nat.min_eq_left hk, ⟨Nat.le_trans hk h.cap.1, h.cap.2⟩, h.nil⟩
  rcases h.rd with h1 | ⟨b, o, h1, h2, h3⟩
  · left; rw [h1]; simp
  · refine .inr ⟨b, o, h1, h2, fun i hi => ?_⟩
    rw [List.length_take] at hi
    obtain ⟨x, e1, e2⟩ := h3 i (by omega)
    exact ⟨x, e1, by simpa using e2⟩
theorem NRd.none_ (w : World) (a : Option Addr) (c : Nat) (hc : c ≤ 9223372036854775807) (hn : a = none → c = 0) : NRd w ⟨a, 0, c⟩ [] := ⟨.inl rfl, rfl, ⟨Nat.zero_le _, hc⟩, hn⟩
set_option maxRecDepth 100000 in
set_option maxHeartbeats 4000000 in
theorem write_yes (t : Nat) (x : DA) (d : Dat) (w : World) (h : DRd w x d) (hck : checkF t d = 0) (hB : Bd d) :
    Calls Tryz.prog 62 #[.agg #[.int .i64 (fs t).nn, .int .i64 (fs t).nf, .int .i64 (fs t).nu, .int .i64 (fs t).wd, .int .i64 (fs t).nt, .int .i64 (fs t).tg, .int .i64 (fs t).tl, .int .i64 (fs t).nr], .agg #[.slice x.p1.a x.p1.n x.p1.c, .slice x.p2.a x.p2.n x.p2.c, .slice x.p3.a x.p3.n x.p3.c, .slice x.p4.a x.p4.n x.p4.c]] w (WPost (writeF t d) w) := by
  have H : Hid (PtSt w ((w.alloc (.cells #[.int .i64 (fs t).nn, .int .i64 (fs t).nf, .int .i64 (fs t).nu, .int .i64 (fs t).wd, .int .i64 (fs t).nt, .int .i64 (fs t).tg, .int .i64 (fs t).tl, .int .i64 (fs t).nr] 90)).alloc (.cells #[.slice x.p1.a x.p1.n x.p1.c, .slice x.p2.a x.p2.n x.p2.c, .slice x.p3.a x.p3.n x.p3.c, .slice x.p4.a x.p4.n x.p4.c] 29)) w.heap.size (fs t) x d) := PtSt.new w (fs t) x d h
  obtain ⟨hm, hf, hnk, hsz⟩ := check_parts hck
  have hwr := wrt_of hck
  obtain ⟨hq1, hq2, hq3, hq4, hq5, hq6⟩ := wr_eq t d hf
  have HW : Hid (∀ W, DRd W x d → Calls Tryz.prog 57 #[.agg #[.int .i64 (fs t).nn, .int .i64 (fs t).nf, .int .i64 (fs t).nu, .int .i64 (fs t).wd, .int .i64 (fs t).nt, .int .i64 (fs t).tg, .int .i64 (fs t).tl, .int .i64 (fs t).nr], .agg #[.slice x.p1.a x.p1.n x.p1.c, .slice x.p2.a x.p2.n x.p2.c, .slice x.p3.a x.p3.n x.p3.c, .slice x.p4.a x.p4.n x.p4.c]] W fun e w' => e = .returned (.int .i64 (sizesF t d : Nat)) ∧ Hid (Below W.heap.size W w')) := by
    intro W hd
    rw [← psz_eq t d hf]
    refine psize5_any (fs t) x d W hd (fs_tl t) ?_
    have h5 : nsum d ≤ 1000 * 255 := by
      have := sum_le (d.ns.map nsz) 255 (by
        intro y hy
        obtain ⟨n, hn, rfl⟩ := List.mem_map.1 hy
        exact (nck_small (hnk n hn)).1)
      rw [List.length_map] at this
      have h6 : d.ns.length * 255 ≤ 1000 * 255 := Nat.mul_le_mul_right _ hB.n
      unfold nsum
      omega
    have h7 : (fs t).wd * d.us.length ≤ 4 * 1000 := Nat.mul_le_mul (by have := fs_wd t; omega) hB.u
    have h8 := hB.t
    have h9 := hB.r
    omega
  have hwl : (writeF t d).length ≤ 65535 := by
    rw [← hq6]
    have h1 := hwr.sz
    rw [hq1, ← hq4] at h1
    have h2 : (ptB (d.ts.length - (fs t).tl) d.ts).length = (tsB t d.ts).length := by
      have e1 := congrArg List.length hq6
      unfold writeF at e1
      by_cases h6 : t = 6
      · obtain ⟨_, e2, e3⟩ := hwr.soa h6
        rw [e2]; simp [ptB, tsB, nby]
      · rw [if_neg h6, hq1, hq4] at e1
        simp only [List.length_append] at e1
        omega
    simp only [List.length_append] at h1 ⊢
    omega
  have HNK : Hid (∀ n ∈ d.ns, nck n = 0) := hnk
  have HNU : Hid (∀ n ∈ d.us, n ≤ most (fs t).wd ∧ ((fs t).wd = 1 ∨ (fs t).wd = 2 ∨ (fs t).wd = 4)) := by rw [hq4]; exact hwr.nu
  have HTX : Hid (∀ i (h : i < d.ts.length), i < d.ts.length - (fs t).tl → d.ts[i].size ≤ 255) := by
    intro i hi hlt
    refine hwr.tx i hi ?_
    rcases fs_cases t with ⟨ht, e⟩ | ⟨ht, e⟩ | ⟨ht, e⟩ | ⟨ht, e⟩ | ⟨ht, e⟩ | ⟨ht, e⟩ | ⟨ht, e⟩ | ⟨ht, e⟩ | ⟨ht, e⟩
    all_goals first
      | exact .inl ht
      | (right
         obtain ⟨fns, fus, fts, ft1, fraw, fun_, ftx, ftg⟩ := (fit_iff t d).1 hf
         first
         | (rcases ht with rfl | rfl | rfl <;> (rw [e] at hlt; simp only at hlt; first | (have e2 : (shp 2).nt = 0 := rfl; omega) | (have e2 : (shp 5).nt = 0 := rfl; omega) | (have e2 : (shp 12).nt = 0 := rfl; omega)))
         | (subst ht; rw [e] at hlt; simp only at hlt; first | (have e2 : (shp 1).nt = 0 := rfl; omega) | (have e2 : (shp 28).nt = 0 := rfl; omega) | (have e2 : (shp 6).nt = 0 := rfl; omega) | (have e2 : (shp 15).nt = 0 := rfl; omega) | (have e2 : (shp 33).nt = 0 := rfl; omega) | (have e2 : (shp 257).nt = 2 := rfl; omega))
         | (obtain ⟨h1, h2, h3, h4, h5, h6, h7, h8, h9, h10⟩ := ht
            have es' : shp t = ⟨0, 0, 0, -1, 0⟩ := by unfold shp; simp [h1, h2, h3, h4, h5, h6, h7, h8, h9, h10]
            rw [es'] at fts; simp only at fts; omega))
  have HD : Hid (DRd w x d) := h
  have l1 := h.h1.len
  have l3 := h.h3.len
  have l4 := h.h4.len
  have HC1 : Hid (x.p1.n ≤ x.p1.c ∧ x.p1.c ≤ 9223372036854775807 ∧ (x.p1.a = none → x.p1.c = 0)) := ⟨h.h1.cap.1, h.h1.cap.2, h.h1.nil⟩
  clear h hck hwr hm hnk hq1 hf hB hq4
  obtain ⟨R, hR⟩ : ∃ R, writeF t d = R := ⟨_, rfl⟩
  rw [hR] at hq6 hwl ⊢
  generalize hszz : sizesF t d = Z at *
  clear hszz hR
  generalize (fs t) = f at *
  obtain ⟨nn, nf, nu, wd, nt, tg, tl, nr⟩ := f
  obtain ⟨⟨a1, n1, k1⟩, ⟨a2, n2, k2⟩, ⟨a3, n3, k3⟩, ⟨a4, n4, k4⟩⟩ := x
  simp only at H HW HNU HTX l1 l3 l4 hq2 hq3 hq5 hq6 HC1 ⊢
  rw [l1] at hq2 hq3
  rw [l3] at hq5
  have HQ6 : Hid ((d.ns.take nf).flatMap nmB ++ d.us.flatMap (fun n => numB n wd) ++ (d.ns.drop nf).flatMap nmB ++ ptB (n3 - tl) d.ts ++ d.raw = R) := by rw [l3] at hq6; exact hq6
  have HLL : Hid (d.ns.length = n1 ∧ d.ts.length = n3 ∧ d.raw.length = n4) := ⟨l1, l3, l4⟩
  have HTX2 : Hid (∀ i (h : i < d.ts.length), i < n3 - tl → d.ts[i].size ≤ 255) := fun i hi hlt => HTX.out i hi (by rw [l3]; exact hlt)
  have hR6 : R.length ≤ 65535 := hwl
  have hcap := HC1.out
  clear l1 l3 l4 hq6 HTX hwl HC1
  have HRL : Hid (((d.ns.take nf).flatMap nmB).length + (d.us.flatMap (fun n => numB n wd)).length + ((d.ns.drop nf).flatMap nmB).length + (ptB (n3 - tl) d.ts).length + n4 = R.length) := by
    have := congrArg List.length HQ6.out
    simp only [List.length_append] at this
    rw [HLL.out.2.2] at this
    exact this
  go_enter Tryz.func62, Tryz.ntmps62
  go_upto_region 1 with fail
  generalize ((w.alloc (.cells #[.int .i64 nn, .int .i64 nf, .int .i64 nu, .int .i64 wd, .int .i64 nt, .int .i64 tg, .int .i64 tl, .int .i64 nr] 90)).alloc (.cells #[.slice a1 n1 k1, .slice a2 n2 k2, .slice a3 n3 k3, .slice a4 n4 k4] 29)) = W1 at *
  obtain ⟨b, hb⟩ : ∃ b, b = w.heap.size := ⟨_, rfl⟩
  rw [← hb] at H ⊢
  have Hb : Hid (b = w.heap.size) := hb
  clear hb
  obtain ⟨s0, s1, s2, s3, s4, s5, s6, s7, _⟩ := H.out.1
  have c0 := H.out.2.1.1
  have c1 := H.out.2.1.2.1
  have c2 := H.out.2.1.2.2.1
  have c3 := H.out.2.1.2.2.2.1
  simp only at s0 s1 s2 s3 s4 s5 s6 s7 c0 c1 c2 c3
  go_wp2_with fail
  refine (HW.out _ H.out.2.2.1).mono ?_
  rintro e W2 ⟨rfl, H2⟩
  have H3 : Hid (PtSt w W2 b ⟨nn, nf, nu, wd, nt, tg, tl, nr⟩ ⟨⟨a1, n1, k1⟩, ⟨a2, n2, k2⟩, ⟨a3, n3, k3⟩, ⟨a4, n4, k4⟩⟩ d) := H.out.go H2.out
  clear H H2 HW s0 s1 s2 s3 s4 s5 s6 s7 c0 c1 c2 c3
  go_upto_region 2 with (at_make; refine wpList_make_blk _ rfl _ _ rfl 0 Z _ _ rfl rfl rfl rfl (by omega) (by omega) ?_)
  have HG0 : Hid (Gr W2 (W2.alloc (.cells (Array.replicate Z (Value.int .u8 0)) 5)) (.slice (some ⟨W2.heap.size, 0, none⟩) 0 Z) 0 []) := by
    refine ⟨List.replicate Z 0, .inr ⟨W2.heap.size, by simp, Nat.le_refl _, ⟨(heap_alloc_new _ _).trans (by simp), ?_⟩, by simp, by unfold maxLen; simp; omega⟩, by simp, rfl, (Below.refl _ _).alloc (Nat.le_refl _) _⟩
    intro z hz
    rw [List.eq_of_mem_replicate hz]
    omega
  have HF : Hid (∀ W, Below W2.heap.size W2 W → PtSt w W b ⟨nn, nf, nu, wd, nt, tg, tl, nr⟩ ⟨⟨a1, n1, k1⟩, ⟨a2, n2, k2⟩, ⟨a3, n3, k3⟩, ⟨a4, n4, k4⟩⟩ d) := fun W hW => H3.out.go hW
  clear H3
  generalize W2.alloc (.cells (Array.replicate Z (Value.int .u8 0)) 5) = Wa at *
  generalize (some ⟨W2.heap.size, 0, none⟩ : Option Addr) = av at *
  have s1 := (HF.out Wa HG0.out.bel).1.2.1
  have c0 := (HF.out Wa HG0.out.bel).2.1.1
  simp only at s1 c0
  have KN : Hid (∀ (v : Value) (W : World) (m T : Nat) (L R' : List Int), Gr W2 W v m L → m + ((d.ns.take nf).flatMap nmB).length = T → L ++ (d.ns.take nf).flatMap nmB = R' → T ≤ 65535 → Calls Tryz.prog 90 #[v, .slice a1 nf k1] W fun e w' => ∃ v', e = .returned v' ∧ Hid (Gr W2 w' v' T R')) := by
    intro v W m T L R' hg hT hR' hb
    have := ((HF.out W2 (Below.refl _ _)).2.2.1.h1).front nf hq2
    exact putnames_any W2 W v m L ⟨a1, nf, k1⟩ (d.ns.take nf) hg this (fun n hn => HNK.out n (List.mem_of_mem_take hn)) T R' hT hR' hb
  obtain ⟨A1, hA1⟩ : ∃ A, ((d.ns.take nf).flatMap nmB) = A := ⟨_, rfl⟩
  obtain ⟨A2, hA2⟩ : ∃ A, (d.us.flatMap (fun n => numB n wd)) = A := ⟨_, rfl⟩
  obtain ⟨A3, hA3⟩ : ∃ A, ((d.ns.drop nf).flatMap nmB) = A := ⟨_, rfl⟩
  obtain ⟨A4, hA4⟩ : ∃ A, ptB (n3 - tl) d.ts = A := ⟨_, rfl⟩
  have KU : Hid (∀ (v : Value) (W : World) (m : Nat) (L : List Int), Gr W2 W v m L → m + A2.length ≤ 65535 → Calls Tryz.prog 91 #[v, .slice a2 n2 k2, .int .i64 wd] W fun e w' => ∃ v', e = .returned v' ∧ Hid (Gr W2 w' v' (m + A2.length) (L ++ A2))) := by
    intro v W m L hg hb
    subst hA2
    exact putnums_any W2 W v m L ⟨a2, n2, k2⟩ d.us wd hg (HF.out W2 (Below.refl _ _)).2.2.1.h2 HNU.out _ _ rfl rfl hb
  have KT : Hid (∀ (v : Value) (W : World) (m : Nat) (L : List Int), Gr W2 W v m L → m + A4.length ≤ 65535 → Calls Tryz.prog 92 #[v, .slice a3 n3 k3, .int .i64 tl] W fun e w' => ∃ v', e = .returned v' ∧ Hid (Gr W2 w' v' (m + A4.length) (L ++ A4))) := by
    intro v W m L hg hb
    subst hA4
    exact puttexts_any W2 W v m L ⟨a3, n3, k3⟩ d.ts tl (n3 - tl) hg (HF.out W2 (Below.refl _ _)).2.2.1.h3 hq5 rfl HTX2.out _ _ rfl rfl hb
  have KN2 : Hid (∀ (v : Value) (W : World) (m : Nat) (L : List Int), Gr W2 W v m L → m + A1.length ≤ 65535 → Calls Tryz.prog 90 #[v, .slice a1 nf k1] W fun e w' => ∃ v', e = .returned v' ∧ Hid (Gr W2 w' v' (m + A1.length) (L ++ A1))) := by
    intro v W m L hg hb
    exact KN.out v W m (m + A1.length) L (L ++ A1) hg (by rw [hA1]) (by rw [hA1]) hb
  have KB : Hid (∀ (s : Sl) (v : Value) (W : World) (m : Nat) (L : List Int), NRd W2 s (d.ns.drop nf) → Gr W2 W v m L → m + A3.length ≤ 65535 → Calls Tryz.prog 90 #[v, .slice s.a s.n s.c] W fun e w' => ∃ v', e = .returned v' ∧ Hid (Gr W2 w' v' (m + A3.length) (L ++ A3))) := by
    intro s v W m L hs hg hb
    subst hA3
    exact putnames_any W2 W v m L s (d.ns.drop nf) hg hs (fun n hn => HNK.out n (List.mem_of_mem_drop hn)) _ _ rfl rfl hb
  have hr := HRL.out
  have h6 := HQ6.out
  rw [hA1, hA2, hA3, hA4] at hr h6
  have HR : Hid (A1.length + A2.length + A3.length + A4.length + n4 = R.length ∧ A1 ++ A2 ++ A3 ++ A4 ++ d.raw = R) := ⟨hr, h6⟩
  have hb1 : 0 + A1.length ≤ 65535 := by omega
  have hb2 : 0 + A1.length + A2.length ≤ 65535 := by omega
  have hb3 : 0 + A1.length + A2.length + A3.length ≤ 65535 := by omega
  have hb4 : 0 + A1.length + A2.length + A3.length + A4.length ≤ 65535 := by omega
  have hb5 : 0 + A1.length + A2.length + A3.length + A4.length + n4 ≤ 65535 := by omega
  clear hr h6 hA1 hA2 hA3 hA4 KN HRL HQ6 HNK HNU HTX2
  obtain ⟨q1, hq1⟩ : ∃ q, 0 + A1.length = q := ⟨_, rfl⟩
  obtain ⟨q2, hq2'⟩ : ∃ q, q1 + A2.length = q := ⟨_, rfl⟩
  obtain ⟨q3, hq3'⟩ : ∃ q, q2 + A3.length = q := ⟨_, rfl⟩
  obtain ⟨q4, hq4'⟩ : ∃ q, q3 + A4.length = q := ⟨_, rfl⟩
  have HQQ : Hid (0 + A1.length = q1 ∧ q1 + A2.length = q2 ∧ q2 + A3.length = q3 ∧ q3 + A4.length = q4 ∧ q4 + n4 = R.length) := ⟨hq1, hq2', hq3', hq4', by have := HR.out.1; omega⟩
  have K1 : Hid (Calls Tryz.prog 90 #[.slice av 0 Z, .slice a1 nf k1] Wa fun e w' => ∃ v', e = .returned v' ∧ Hid (Gr W2 w' v' q1 ([] ++ A1))) := by
    have := KN2.out (.slice av 0 Z) Wa 0 [] HG0.out hb1
    rw [hq1] at this
    exact this
  have HC4 : Hid (q4 + n4 ≤ 65535) := by show _ ≤ _; omega
  clear hb1 hb2 hb3 hb4 hb5 hq1 hq2' hq3' hq4' KN2 hR6
  have hnf63 : nf ≤ 9223372036854775807 := by omega
  go_wp2_with fail
  refine K1.out.mono ?_
  rintro e W3 ⟨v1, rfl, HG1⟩
  clear K1 HG0 s1 c0
  have s3 := (HF.out W3 HG1.out.bel).1.2.2.2.1
  have c1 := (HF.out W3 HG1.out.bel).2.1.2.1
  simp only at s3 c1
  have K2 : Hid (Calls Tryz.prog 91 #[v1, .slice a2 n2 k2, .int .i64 wd] W3 fun e w' => ∃ v', e = .returned v' ∧ Hid (Gr W2 w' v' q2 ([] ++ A1 ++ A2))) := by
    have := KU.out v1 W3 q1 ([] ++ A1) HG1.out (by have := HQQ.out; have := HC4.out; omega)
    rw [HQQ.out.2.1] at this
    exact this
  clear KU
  go_wp2_with fail
  refine K2.out.mono ?_
  rintro e W4 ⟨v2, rfl, HG2⟩
  clear K2 HG1 s3 c1
  have s1 := (HF.out W4 HG2.out.bel).1.2.1
  have c0 := (HF.out W4 HG2.out.bel).2.1.1
  simp only at s1 c0
  have HND : Hid (∀ s : Sl, s.n = n1 - nf → s.c ≤ 9223372036854775807 → (s.a = none → s.c = 0) → (nf = 0 → s = ⟨a1, n1, k1⟩) → NRd W2 s (d.ns.drop nf)) := by
    intro s h1 h2 h3 h4
    have hn := (HF.out W2 (Below.refl _ _)).2.2.1.h1
    by_cases h0 : nf = 0
    · rw [h4 h0, h0]; exact hn
    · have h5 : nf = n1 := hq3.resolve_left h0
      obtain ⟨sa, sn, sc⟩ := s
      simp only at h1 h2 h3
      have h6 : sn = 0 := by omega
      subst h6
      rw [List.drop_eq_nil_of_le (by rw [HLL.out.1]; omega)]
      exact NRd.none_ W2 sa sc h2 h3
  have K3 : Hid (∀ s : Sl, s.n = n1 - nf → s.c ≤ 9223372036854775807 → (s.a = none → s.c = 0) → (nf = 0 → s = ⟨a1, n1, k1⟩) → Calls Tryz.prog 90 #[v2, .slice s.a s.n s.c] W4 fun e w' => ∃ v', e = .returned v' ∧ Hid (Gr W2 w' v' q3 ([] ++ A1 ++ A2 ++ A3))) := by
    intro s h1 h2 h3 h4
    have := KB.out s v2 W4 q2 ([] ++ A1 ++ A2) (HND.out s h1 h2 h3 h4) HG2.out (by have := HQQ.out; have := HC4.out; omega)
    rw [HQQ.out.2.2.1] at this
    exact this
  clear KB HND
  have K4 : Hid (∀ v W, Gr W2 W v q3 ([] ++ A1 ++ A2 ++ A3) → Calls Tryz.prog 92 #[v, .slice a3 n3 k3, .int .i64 tl] W fun e w' => ∃ v', e = .returned v' ∧ Hid (Gr W2 w' v' q4 ([] ++ A1 ++ A2 ++ A3 ++ A4))) := by
    intro v W hg
    have := KT.out v W q3 ([] ++ A1 ++ A2 ++ A3) hg (by have := HQQ.out; have := HC4.out; omega)
    rw [HQQ.out.2.2.2.1] at this
    exact this
  clear KT
  have HEND : Hid (∀ v W, Gr W2 W v (q4 + n4) ([] ++ A1 ++ A2 ++ A3 ++ A4 ++ d.raw) → WPost R w (.returned v) W) := by
    intro v W hg
    rw [List.nil_append, HR.out.2] at hg
    have hbw : Below w.heap.size w W2 := by
      have := (HF.out W2 (Below.refl _ _)).2.2.2
      exact this
    exact hg.post hbw
  have hn4 := HC4.out
  go_wp2_with fail
  · refine (K3.out ⟨a1, n1 - nf, 0⟩ rfl (Nat.zero_le _) (fun _ => rfl) (fun e => ?_)).mono ?_
    · have h1 := hcap.1
      subst e
      simp
      omega
    rintro e W5 ⟨v3, rfl, HG3⟩
    clear K3 s1 c0
    have s6 := (HF.out W5 HG3.out.bel).1.2.2.2.2.2.2.1
    have c2 := (HF.out W5 HG3.out.bel).2.1.2.2.1
    simp only at s6 c2
    go_wp2_with fail
    refine (K4.out _ _ HG3.out).mono ?_
    rintro e W6 ⟨v4, rfl, HG4⟩
    have c3 := (HF.out W6 HG4.out.bel).2.1.2.2.2.1
    have hraw := (HF.out W6 HG4.out.bel).2.2.1.h4
    have HRW : Hid (Rd W6 a4 d.raw ∧ (a4 = none → k4 = 0)) := ⟨hraw.rd, hraw.nil⟩
    simp only at c3
    clear hraw s6 c2 K4 HG3
    go_wp2_with (at_builtin; refine wp_gr W2 _ rfl _ _ rfl v4 q4 ([] ++ A1 ++ A2 ++ A3 ++ A4) rfl HG4.out a4 n4 k4 d.raw rfl HRW.out.1 HLL.out.2.2 HRW.out.2 (by omega) ?_; intro v6 W6 HG6)
    go_ret
    exact HEND.out _ _ HG6.out
  · refine (K3.out ⟨Option.map (fun x => x.add nf) a1, n1 - nf, k1 - nf⟩ rfl (by show k1 - nf ≤ _; omega) (fun e => ?_) (fun e => ?_)).mono ?_
    · simp only [Option.map_eq_none_iff] at e
      have := hcap.2.2 e
      show k1 - nf = 0
      omega
    · subst e
      cases a1 <;> simp [Addr.add]
    rintro e W5 ⟨v3, rfl, HG3⟩
    clear K3 s1 c0
    have s6 := (HF.out W5 HG3.out.bel).1.2.2.2.2.2.2.1
    have c2 := (HF.out W5 HG3.out.bel).2.1.2.2.1
    simp only at s6 c2
    go_wp2_with fail
    refine (K4.out _ _ HG3.out).mono ?_
    rintro e W6 ⟨v4, rfl, HG4⟩
    have c3 := (HF.out W6 HG4.out.bel).2.1.2.2.2.1
    have hraw := (HF.out W6 HG4.out.bel).2.2.1.h4
    have HRW : Hid (Rd W6 a4 d.raw ∧ (a4 = none → k4 = 0)) := ⟨hraw.rd, hraw.nil⟩
    simp only at c3
    clear hraw s6 c2 K4 HG3
    go_wp2_with (at_builtin; refine wp_gr W2 _ rfl _ _ rfl v4 q4 ([] ++ A1 ++ A2 ++ A3 ++ A4) rfl HG4.out a4 n4 k4 d.raw rfl HRW.out.1 HLL.out.2.2 HRW.out.2 (by omega) ?_; intro v6 W6 HG6)
    go_ret
    exact HEND.out _ _ HG6.out
set_option maxRecDepth 100000 in
set_option maxHeartbeats 4000000 in
/-- Data's bytes, or just their error. -/
theorem bytes5_any (t : Nat) (x : DA) (d : Dat) (w : World) (h : DRd w x d) (hB : Bd d) :
    Calls Tryz.prog 28 #[.int .u16 t, .agg #[.slice x.p1.a x.p1.n x.p1.c, .slice x.p2.a x.p2.n x.p2.c, .slice x.p3.a x.p3.n x.p3.c, .slice x.p4.a x.p4.n x.p4.c]] w (fun e w' => ∃ (s : Sl), e = .returned (.tuple #[.slice s.a s.n s.c, .int .i64 (checkF t d)]) ∧ Hid (s.n ≤ s.c ∧ s.c ≤ 9223372036854775807 ∧ (s.a = none → s.c = 0) ∧ (checkF t d = 0 → s.n = (writeF t d).length ∧ Rd w' s.a (writeF t d)) ∧ (checkF t d ≠ 0 → s = ⟨none, 0, 0⟩) ∧ Below w.heap.size w w')) := by
  have hb0 : Below w.heap.size w (w.alloc (.cells #[.slice x.p1.a x.p1.n x.p1.c, .slice x.p2.a x.p2.n x.p2.c, .slice x.p3.a x.p3.n x.p3.c, .slice x.p4.a x.p4.n x.p4.c] 29)) := (Below.refl _ _).alloc (Nat.le_refl _) _
  have H : Hid (DBox (w.alloc (.cells #[.slice x.p1.a x.p1.n x.p1.c, .slice x.p2.a x.p2.n x.p2.c, .slice x.p3.a x.p3.n x.p3.c, .slice x.p4.a x.p4.n x.p4.c] 29)) w.heap.size x ∧ DRd (w.alloc (.cells #[.slice x.p1.a x.p1.n x.p1.c, .slice x.p2.a x.p2.n x.p2.c, .slice x.p3.a x.p3.n x.p3.c, .slice x.p4.a x.p4.n x.p4.c] 29)) x d ∧ Below w.heap.size w (w.alloc (.cells #[.slice x.p1.a x.p1.n x.p1.c, .slice x.p2.a x.p2.n x.p2.c, .slice x.p3.a x.p3.n x.p3.c, .slice x.p4.a x.p4.n x.p4.c] 29))) := ⟨DBox.new w x, h.below hb0, hb0⟩
  have KC : Hid (∀ W, DRd W x d → Calls Tryz.prog 24 #[.int .u16 t, .agg #[.slice x.p1.a x.p1.n x.p1.c, .slice x.p2.a x.p2.n x.p2.c, .slice x.p3.a x.p3.n x.p3.c, .slice x.p4.a x.p4.n x.p4.c]] W fun e w' => e = .returned (.int .i64 (checkF t d)) ∧ Hid (Below W.heap.size W w')) := fun W hd => check_any t x d W hd hB
  have KO : Hid (∀ W, Calls Tryz.prog 54 #[.int .u16 t] W fun e w' => e = .returned (.agg #[.int .i64 (fs t).nn, .int .i64 (fs t).nf, .int .i64 (fs t).nu, .int .i64 (fs t).wd, .int .i64 (fs t).nt, .int .i64 (fs t).tg, .int .i64 (fs t).tl, .int .i64 (fs t).nr]) ∧ Hid (Below W.heap.size W w')) := fun W => fieldsof_any t W
  have KW : Hid (checkF t d = 0 → ∀ W, DRd W x d → Calls Tryz.prog 62 #[.agg #[.int .i64 (fs t).nn, .int .i64 (fs t).nf, .int .i64 (fs t).nu, .int .i64 (fs t).wd, .int .i64 (fs t).nt, .int .i64 (fs t).tg, .int .i64 (fs t).tl, .int .i64 (fs t).nr], .agg #[.slice x.p1.a x.p1.n x.p1.c, .slice x.p2.a x.p2.n x.p2.c, .slice x.p3.a x.p3.n x.p3.c, .slice x.p4.a x.p4.n x.p4.c]] W (WPost (writeF t d) W)) := fun hc W hd => write_yes t x d W hd hc hB
  clear h hb0 hB
  generalize writeF t d = R at *
  generalize checkF t d = C at *
  generalize (fs t) = f at *
  obtain ⟨nn, nf, nu, wd, nt, tg, tl, nr⟩ := f
  obtain ⟨⟨a1, n1, k1⟩, ⟨a2, n2, k2⟩, ⟨a3, n3, k3⟩, ⟨a4, n4, k4⟩⟩ := x
  simp only at H KC KO KW ⊢
  go_enter Tryz.func28, Tryz.ntmps28
  go_upto_region 1 with fail
  generalize (w.alloc (.cells #[.slice a1 n1 k1, .slice a2 n2 k2, .slice a3 n3 k3, .slice a4 n4 k4] 29)) = W1 at *
  obtain ⟨b, hb⟩ : ∃ b, b = w.heap.size := ⟨_, rfl⟩
  rw [← hb] at H ⊢
  have Hb : Hid (b = w.heap.size) := hb
  clear hb
  have c0 := H.out.1.1
  have c1 := H.out.1.2.1
  have c2 := H.out.1.2.2.1
  have c3 := H.out.1.2.2.2.1
  simp only at c0 c1 c2 c3
  go_wp2_with fail
  refine (KC.out _ H.out.2.1).mono ?_
  rintro e W2 ⟨rfl, H2⟩
  have H3 : Hid (DBox W2 b ⟨⟨a1, n1, k1⟩, ⟨a2, n2, k2⟩, ⟨a3, n3, k3⟩, ⟨a4, n4, k4⟩⟩ ∧ DRd W2 ⟨⟨a1, n1, k1⟩, ⟨a2, n2, k2⟩, ⟨a3, n3, k3⟩, ⟨a4, n4, k4⟩⟩ d ∧ Below w.heap.size w W2) := ⟨H.out.1.below H2.out, H.out.2.1.below H2.out, by have := H.out.2.2; rw [Hb.out] at this; exact this.trans (H2.out.mono this.size)⟩
  clear H H2 KC c0 c1 c2 c3
  by_cases hC : C = 0
  · have hC' : (C != 0) = false := by simp [hC]
    have KW2 : Hid (∀ W, DRd W ⟨⟨a1, n1, k1⟩, ⟨a2, n2, k2⟩, ⟨a3, n3, k3⟩, ⟨a4, n4, k4⟩⟩ d → Calls Tryz.prog 62 #[.agg #[.int .i64 nn, .int .i64 nf, .int .i64 nu, .int .i64 wd, .int .i64 nt, .int .i64 tg, .int .i64 tl, .int .i64 nr], .agg #[.slice a1 n1 k1, .slice a2 n2 k2, .slice a3 n3 k3, .slice a4 n4 k4]] W (WPost R W)) := KW.out hC
    clear KW
    have HC0 : Hid (C = 0) := hC
    clear hC
    have c0 := H3.out.1.1
    have c1 := H3.out.1.2.1
    have c2 := H3.out.1.2.2.1
    have c3 := H3.out.1.2.2.2.1
    have hbl := H3.out.1.2.2.2.2
    simp only at c0 c1 c2 c3
    go_wp2_with fail
    go_region_held3 (fun W => W.cell? ⟨b, 0, none⟩ = some (.slice a1 n1 k1) ∧ W.cell? ⟨b, 1, none⟩ = some (.slice a2 n2 k2) ∧ W.cell? ⟨b, 2, none⟩ = some (.slice a3 n3 k3) ∧ W.cell? ⟨b, 3, none⟩ = some (.slice a4 n4 k4)) (exact ⟨by go_keep, by go_keep, by go_keep, by go_keep⟩) (first
      | (go_at_call 54; refine (KO.out _).mono ?_; rintro e W5 ⟨rfl, H5⟩; have HD5 : Hid (DRd W5 ⟨⟨a1, n1, k1⟩, ⟨a2, n2, k2⟩, ⟨a3, n3, k3⟩, ⟨a4, n4, k4⟩⟩ d ∧ Below w.heap.size w W5 ∧ b < W5.heap.size) := ⟨(H3.out.2.1.below (Below.refl _ _).drew).below H5.out, (H3.out.2.2.trans ((Below.refl _ _).drew.mono H3.out.2.2.size)).trans (H5.out.mono H3.out.2.2.size), Nat.lt_of_lt_of_le hbl H5.out.size⟩; have e0 : W5.cell? ⟨b, 0, none⟩ = some (.slice a1 n1 k1) := (H5.out.cell (p := ⟨b, 0, none⟩) hbl).trans c0; have e1 : W5.cell? ⟨b, 1, none⟩ = some (.slice a2 n2 k2) := (H5.out.cell (p := ⟨b, 1, none⟩) hbl).trans c1; have e2 : W5.cell? ⟨b, 2, none⟩ = some (.slice a3 n3 k3) := (H5.out.cell (p := ⟨b, 2, none⟩) hbl).trans c2; have e3 : W5.cell? ⟨b, 3, none⟩ = some (.slice a4 n4 k4) := (H5.out.cell (p := ⟨b, 3, none⟩) hbl).trans c3)
      | (go_at_call 62; refine (KW2.out _ HD5.out.1).mono ?_; rintro e W6 ⟨s6, rfl, H6⟩; have HE6 : Hid (s6.n = R.length ∧ Rd W6 s6.a R ∧ s6.n ≤ s6.c ∧ s6.c ≤ 9223372036854775807 ∧ (s6.a = none → s6.c = 0) ∧ Below w.heap.size w W6) := ⟨H6.out.1, H6.out.2.1, H6.out.2.2.1, H6.out.2.2.2.1, H6.out.2.2.2.2.1, HD5.out.2.1.trans (H6.out.2.2.2.2.2.mono HD5.out.2.1.size)⟩; have f0 : W6.cell? ⟨b, 0, none⟩ = some (.slice a1 n1 k1) := (H6.out.2.2.2.2.2.cell (p := ⟨b, 0, none⟩) HD5.out.2.2).trans e0; have f1 : W6.cell? ⟨b, 1, none⟩ = some (.slice a2 n2 k2) := (H6.out.2.2.2.2.2.cell (p := ⟨b, 1, none⟩) HD5.out.2.2).trans e1; have f2 : W6.cell? ⟨b, 2, none⟩ = some (.slice a3 n3 k3) := (H6.out.2.2.2.2.2.cell (p := ⟨b, 2, none⟩) HD5.out.2.2).trans e2; have f3 : W6.cell? ⟨b, 3, none⟩ = some (.slice a4 n4 k4) := (H6.out.2.2.2.2.2.cell (p := ⟨b, 3, none⟩) HD5.out.2.2).trans e3))
    obtain ⟨g1, g2, g3, g4, g5, g6⟩ := HE6.out
    go_wp2_with fail
    go_ret2
    exact ⟨s6, by rw [HC0.out]; rfl, g3, g4, g5, fun _ => ⟨g1, g2⟩, fun e => absurd HC0.out e, g6⟩
  · have hC' : (C != 0) = true := by simp [hC]
    have HC0 : Hid (C ≠ 0) := hC
    clear KW KO hC
    go_wp2_with fail
    exact bodyPost_ret (v := .tuple #[.slice none 0 0, .int .i64 C]) (by simp [results, Tryz.results28, go_sem]) rfl ⟨⟨none, 0, 0⟩, rfl, Nat.le_refl _, Nat.zero_le _, fun _ => rfl, fun e => absurd e HC0.out, fun _ => rfl, H3.out.2.2⟩
end Go.Proofs.YtfkfjodfjgjbkaaGreatDoor
/- The document's own answer: the bytes of data of a type but SOA. -/
namespace Go.Proofs.YtfkfjodfjgjbkaaGreatDoor
open Go.ChangeShapes Go.WideShapes Go.ChangeAt Go.RowKit
set_option linter.unusedVariables false
set_option linter.unusedSimpArgs false


end Go.Proofs.YtfkfjodfjgjbkaaGreatDoor
/- The document's own answer: the bytes of data of SOA. -/
namespace Go.Proofs.YtfkfjodfjgjbkaaGreatDoor
open Go.ChangeShapes Go.WideShapes Go.ChangeAt Go.RowKit
set_option linter.unusedVariables false
set_option linter.unusedSimpArgs false


end Go.Proofs.YtfkfjodfjgjbkaaGreatDoor
/- The document's own answer: the bytes of data, or the error. -/
namespace Go.Proofs.YtfkfjodfjgjbkaaGreatDoor
open Go.ChangeShapes Go.WideShapes Go.ChangeAt Go.RowKit
set_option linter.unusedVariables false
set_option linter.unusedSimpArgs false




def bytesF (t : Nat) (d : Dat) : List Int × Int := if checkF t d = 0 then (writeF t d, 0) else ([], checkF t d)
end Go.Proofs.YtfkfjodfjgjbkaaGreatDoor
/- Picked out of earlier texts. -/
namespace Go.Proofs.YtfkfjodfjgjbkaaGreatDoor
open Go.ChangeShapes Go.WideShapes Go.ChangeAt Go.RowKit
set_option linter.unusedVariables false
set_option linter.unusedSimpArgs false


/-- The text lies elsewhere than the reader. -/
def OffM (a : Option Addr) (g : Nat) : Prop := True
theorem Own.keep {B : Nat} {w w' : World} {v : Value} {n : Nat} {zs : List Int} (h : Own B w v n zs) (hb : ∀ g, B ≤ g → w'.heap[g]? = w.heap[g]?) : Own B w' v n zs := by
  rcases h with h | ⟨g, h1, h2, h3, h4⟩
  · exact .inl h
  · exact .inr ⟨g, h1, h2, h3.same (hb g h2), h4⟩
theorem tk_full (zs : List Int) (st : Option Nat) (n : Nat) : (tk zs st n).length = n ∨ tk zs st n = [] := by
  unfold tk
  split
  · split
    · rename_i k h
      left
      rw [Int.toNat_natCast, List.length_take, List.length_drop]
      omega
    · right; rfl
  · right; rfl
end Go.Proofs.YtfkfjodfjgjbkaaGreatDoor
/- Data that are made bit by bit, beside a reader. -/
namespace Go.Proofs.YtfkfjodfjgjbkaaGreatDoor
open Go.ChangeShapes Go.WideShapes Go.ChangeAt Go.RowKit
set_option linter.unusedVariables false
set_option linter.unusedSimpArgs false




/-- What stays of the world Wb: all but the blocks g and D. -/
structure Kp (g D : Nat) (Wb W : World) : Prop where
  os : W.os = Wb.os
  tape : W.tape = Wb.tape
  output : W.output = Wb.output
  size : Wb.heap.size ≤ W.heap.size
  block : ∀ j, j < Wb.heap.size → j ≠ g → j ≠ D → W.heap[j]? = Wb.heap[j]?
theorem Kp.refl (g D : Nat) (W : World) : Kp g D W W := ⟨rfl, rfl, rfl, Nat.le_refl _, fun _ _ _ _ => rfl⟩
theorem Kp.go {g D : Nat} {Wb W W' : World} (h : Kp g D Wb W) (hb : Below W.heap.size W W') : Kp g D Wb W' :=
  ⟨hb.os.trans h.os, hb.tape.trans h.tape, hb.output.trans h.output, Nat.le_trans h.size hb.size, fun j hj h1 h2 => (hb.block j (Nat.lt_of_lt_of_le hj h.size)).trans (h.block j hj h1 h2)⟩
theorem Kp.own {g D : Nat} {Wb W W' : World} {o : Option Nat} (h : Kp g D Wb W) (hg : W.grownBy W' o) (ho : ∀ j, o = some j → Wb.heap.size ≤ j) : Kp g D Wb W' :=
  ⟨hg.os.trans h.os, hg.tape.trans h.tape, hg.output.trans h.output, Nat.le_trans h.size hg.size, fun j hj h1 h2 => (hg.block j (Nat.lt_of_lt_of_le hj h.size) (fun e => by have := ho j e.symm; omega)).trans (h.block j hj h1 h2)⟩
theorem Kp.rd {g D : Nat} {Wb W W' : World} (h : Kp g D Wb W) (hg : W.grownBy W' (some g)) : Kp g D Wb W' :=
  ⟨hg.os.trans h.os, hg.tape.trans h.tape, hg.output.trans h.output, Nat.le_trans h.size hg.size, fun j hj h1 h2 => (hg.block j (Nat.lt_of_lt_of_le hj h.size) (fun e => h1 (Option.some.inj e))).trans (h.block j hj h1 h2)⟩
theorem Kp.set {g D : Nat} {Wb W : World} (h : Kp g D Wb W) (i : Nat) (v : Value) : Kp g D Wb (W.setCell ⟨D, i, none⟩ v) :=
  ⟨h.os, h.tape, h.output, by simp [World.setCell]; exact h.size, fun j hj h1 h2 => (Below.heap_setCell _ _ _ j h2).trans (h.block j hj h1 h2)⟩
theorem Kp.below {g D : Nat} {w Wb W : World} {B : Nat} (h : Kp g D Wb W) (hb : Below B w Wb) (hB : B ≤ Wb.heap.size) (h1 : B ≤ g) (h2 : B ≤ D) : Below B w W :=
  ⟨h.os.trans hb.os, h.tape.trans hb.tape, h.output.trans hb.output, Nat.le_trans hb.size h.size, fun j hj => (h.block j (by omega) (by omega) (by omega)).trans (hb.block j hj)⟩
theorem Kp.trans {g D : Nat} {Wa Wb W : World} (h : Kp g D Wa Wb) (h' : Kp g D Wb W) : Kp g D Wa W :=
  ⟨h'.os.trans h.os, h'.tape.trans h.tape, h'.output.trans h.output, Nat.le_trans h.size h'.size, fun j hj h1 h2 => (h'.block j (Nat.lt_of_lt_of_le hj h.size) h1 h2).trans (h.block j hj h1 h2)⟩
theorem RdV.of_blocks {w w' : World} {a : Option Addr} {xs : List Value} (h : RdV w a xs) (hs : w.heap.size ≤ w'.heap.size) (hb : ∀ b o, a = some ⟨b, o, none⟩ → w'.heap[b]? = w.heap[b]?) : RdV w' a xs := by
  rcases h with h | ⟨b, o, h1, h2, h3⟩
  · exact .inl h
  · refine .inr ⟨b, o, h1, Nat.lt_of_lt_of_le h2 hs, fun i hi => ?_⟩
    rw [← h3 i hi]
    exact World.cell?_of_block (hb b o h1)
theorem TRd.of_blocks {w w' : World} {s : Sl} {ss : List ByteArray} (h : TRd w s ss) (hs : w.heap.size ≤ w'.heap.size) (hb : ∀ b o, s.a = some ⟨b, o, none⟩ → w'.heap[b]? = w.heap[b]?) : TRd w' s ss :=
  ⟨RdV.of_blocks h.rd hs hb, h.len, h.cap, h.nil, h.z63⟩
/-- Data's box. -/
def DBlk (w : World) (D : Nat) (x : DA) : Prop := w.heap[D]? = some (.cells #[.slice x.p1.a x.p1.n x.p1.c, .slice x.p2.a x.p2.n x.p2.c, .slice x.p3.a x.p3.n x.p3.c, .slice x.p4.a x.p4.n x.p4.c] 29 (0, 0))
theorem DBlk.lt {w : World} {D : Nat} {x : DA} (h : DBlk w D x) : D < w.heap.size := (Array.getElem?_eq_some_iff.1 h).1
theorem DBlk.same {w w' : World} {D : Nat} {x : DA} (h : DBlk w D x) (hb : w'.heap[D]? = w.heap[D]?) : DBlk w' D x := hb.trans h
theorem DBlk.box {w : World} {D : Nat} {x : DA} (h : DBlk w D x) : DBox w D x := by
  have h' : w.heap[D]? = _ := h
  refine ⟨?_, ?_, ?_, ?_, h.lt⟩ <;> simp [World.cell?, h']
theorem DBlk.fz {w : World} {D : Nat} {x : DA} (h : DBlk w D x) (i : Nat) : w.frozen? ⟨D, i, none⟩ = false := by
  have h' : w.heap[D]? = _ := h
  simp [World.frozen?, h']
theorem DBlk.set0 {w : World} {D : Nat} {x : DA} (h : DBlk w D x) (s : Sl) : DBlk (w.setCell ⟨D, 0, none⟩ (.slice s.a s.n s.c)) D ⟨s, x.p2, x.p3, x.p4⟩ := (heap_set h 0 _).trans (by simp)
theorem DBlk.set1 {w : World} {D : Nat} {x : DA} (h : DBlk w D x) (s : Sl) : DBlk (w.setCell ⟨D, 1, none⟩ (.slice s.a s.n s.c)) D ⟨x.p1, s, x.p3, x.p4⟩ := (heap_set h 1 _).trans (by simp)
theorem DBlk.set2 {w : World} {D : Nat} {x : DA} (h : DBlk w D x) (s : Sl) : DBlk (w.setCell ⟨D, 2, none⟩ (.slice s.a s.n s.c)) D ⟨x.p1, x.p2, s, x.p4⟩ := (heap_set h 2 _).trans (by simp)
theorem DBlk.set3 {w : World} {D : Nat} {x : DA} (h : DBlk w D x) (s : Sl) : DBlk (w.setCell ⟨D, 3, none⟩ (.slice s.a s.n s.c)) D ⟨x.p1, x.p2, x.p3, s⟩ := (heap_set h 3 _).trans (by simp)
/-- A name of one's own. -/
def Own1 (B : Nat) (w : World) (s : Sl) (nm : List ByteArray) : Prop := ∃ ys, OwnT B w (.slice s.a s.n s.c) nm.length ys 1000000000000 ∧ ys.take nm.length = nm
theorem Own1.keep {B : Nat} {w w' : World} {s : Sl} {nm : List ByteArray} (h : Own1 B w s nm) (hb : ∀ j, B ≤ j → j < w.heap.size → (∃ zs, BlkV w j 9 zs) → w'.heap[j]? = w.heap[j]?) : Own1 B w' s nm := by
  obtain ⟨ys, ⟨h1, h2⟩, h3⟩ := h
  refine ⟨ys, ⟨?_, h2⟩, h3⟩
  rcases h1 with h1 | ⟨g, e, hg, hblk, hn⟩
  · exact .inl h1
  · exact .inr ⟨g, e, hg, hblk.same (hb g hg hblk.lt ⟨_, hblk⟩), hn⟩
theorem Own1.rd {B : Nat} {w : World} {s : Sl} {nm : List ByteArray} (h : Own1 B w s nm) : TRd w s nm := by
  obtain ⟨ys, h1, h3⟩ := h
  obtain ⟨ao, e, hnil⟩ := h1.shape
  have hle := h1.le
  obtain ⟨sa, sn, sc⟩ := s
  simp only at e h1
  injection e with e1 e2 e3
  subst e1 e2 e3
  have hrd := h1.rd nm.length
  rw [h3] at hrd
  refine ⟨hrd, rfl, ⟨hle.1, by have := hle.2; simp only [maxLen] at this; exact this⟩, hnil, fun x hx => ?_⟩
  have : x ∈ ys := by rw [← h3] at hx; exact List.mem_of_mem_take hx
  have := h1.2 x this
  omega
/-- A list of names of one's own, from the block B on. -/
def OwnN (B : Nat) (w : World) (v : Value) (nss : List (List ByteArray)) : Prop :=
  ∃ xs, OwnV B w 45 v nss.length xs ∧ ∀ i (hi : i < nss.length), ∃ s : Sl, xs[i]? = some (.slice s.a s.n s.c) ∧ Own1 B w s nss[i]
theorem OwnN.nil (B : Nat) (w : World) : OwnN B w (.slice none 0 0) [] := ⟨[], OwnV.nil B w 45, fun i hi => absurd hi (by simp)⟩
theorem OwnN.keep {B : Nat} {w w' : World} {v : Value} {nss : List (List ByteArray)} (h : OwnN B w v nss) (hb : ∀ j, B ≤ j → j < w.heap.size → w'.heap[j]? = w.heap[j]?) : OwnN B w' v nss := by
  obtain ⟨xs, h1, h2⟩ := h
  refine ⟨xs, h1.keep (fun j e hj => hb j (h1.lt j e) hj), fun i hi => ?_⟩
  obtain ⟨s, e1, e2⟩ := h2 i hi
  exact ⟨s, e1, e2.keep (fun j h1 h2 _ => hb j h1 h2)⟩
theorem OwnN.shape {B : Nat} {w : World} {v : Value} {nss : List (List ByteArray)} (h : OwnN B w v nss) : ∃ s : Sl, v = .slice s.a s.n s.c := by
  obtain ⟨xs, h1, _⟩ := h
  obtain ⟨ao, rfl, _⟩ := h1.shape
  exact ⟨⟨ao, nss.length, xs.length⟩, rfl⟩
theorem OwnN.rd {B : Nat} {w : World} {s : Sl} {nss : List (List ByteArray)} (h : OwnN B w (.slice s.a s.n s.c) nss) : NRd w s nss := by
  obtain ⟨a, n, c⟩ := s
  obtain ⟨xs, h1, h2⟩ := h
  rcases h1 with ⟨e, e0, rfl⟩ | ⟨g, e, hg, hblk, hn, hm⟩
  · injection e with e1 e2 e3
    simp only at e1 e2 e3
    subst e1 e2 e3
    exact ⟨.inl (List.eq_nil_of_length_eq_zero e0), e0, ⟨Nat.le_refl _, Nat.zero_le _⟩, fun _ => rfl⟩
  · injection e with e1 e2 e3
    simp only at e1 e2 e3
    subst e1 e2 e3
    refine ⟨.inr ⟨g, 0, rfl, hblk.lt, fun i hi => ?_⟩, rfl, ⟨hn, by simp only [maxLen] at hm; exact hm⟩, by simp⟩
    obtain ⟨s, e1, e2⟩ := h2 i hi
    refine ⟨s, ?_, e2.rd⟩
    rw [Nat.zero_add, hblk.cell i (by omega)]
    rw [List.getElem?_eq_getElem (by omega)] at e1
    exact e1
theorem tyNs : ElemTy Tryz.prog 24 45 (.slice none 0 0) 24 := ⟨Tryz.underlying24, by kernel_rfl, rfl⟩
/-- A name appended. -/
theorem wp_names {w : World} {ops : Array Oper} {rest : List Oper} {o : Oper} {a : Act} {Q : Exit → Act → World → Prop} (hgd : o.guard = none) (s x : Operand)
    (ho : o.op = .call { callee := .builtin .append, args := #[s, x], argTypes := #[24, 24] }) (B : Nat) (v : Value) (nss : List (List ByteArray)) (hs : a.eval s = v) (hown : OwnN B w v nss)
    (ao : Addr) (hx : a.eval x = .slice (some ao) 1 1) (t : Sl) (nm : List ByteArray) (hr : RdV w (some ao) [.slice t.a t.n t.c]) (ht : Own1 B w t nm) (hn : nss.length ≤ 1000) (hB : B ≤ w.heap.size)
    (h : ∀ (t' : Sl) w', Hid (OwnN B w' (.slice t'.a t'.n t'.c) (nss ++ [nm])) → Hid (w.grownBy w' v.ownBlock ∧ ∀ j, v.ownBlock = some j → B ≤ j) → wpList Tryz.prog ops Q rest (a.put o.dst (.slice t'.a t'.n t'.c)) w') : wpList Tryz.prog ops Q (o :: rest) a w := by
  obtain ⟨xs, h1, h2⟩ := hown
  refine wpList_append_row tyNs w hgd s x 24 ho B v nss.length xs hs h1 _ 1 [.slice t.a t.n t.c] hx (src_of Tryz.underlying24 hr rfl (by intro u hu; simp at hu; subst hu; rfl)) (by omega) (by simp only [maxLen]; omega) hB ?_
  intro v' w' xs' q1 q2 q3 q4
  obtain ⟨ao', rfl, _⟩ := q1.out.shape
  have hle := q1.out.le
  refine h ⟨ao', nss.length + 1, xs'.length⟩ w' ⟨xs', by simpa using q1.out, fun i hi => ?_⟩ ⟨q3, h1.lt⟩
  have hkb : ∀ j, B ≤ j → j < w.heap.size → (∃ zs, BlkV w j 9 zs) → w'.heap[j]? = w.heap[j]? := by
    rintro j _ hj ⟨zs, hz⟩
    refine q3.block j hj (fun e => ?_)
    rcases h1 with ⟨e3, _⟩ | ⟨g, e3, _, hblk, _⟩
    · rw [e3] at e; cases e
    · rw [e3] at e
      have e2 : g = j := (Option.some.inj e).symm
      subst e2
      have hh : w.heap[g]? = some (.cells xs.toArray 45 (0, 0)) := hblk
      have hh' : w.heap[g]? = some (.cells zs.toArray 9 (0, 0)) := hz
      rw [hh] at hh'
      injection hh' with hh'
      injection hh' with _ hh'
      exact absurd hh' (by decide)
  have hx' : xs'.take (nss.length + 1) = xs.take nss.length ++ [.slice t.a t.n t.c] := q2.out
  have hl : (xs.take nss.length).length = nss.length := by have := h1.le.1; rw [List.length_take]; omega
  rw [List.length_append, List.length_singleton] at hi
  by_cases hlt : i < nss.length
  · obtain ⟨s', e1, e2⟩ := h2 i hlt
    refine ⟨s', ?_, ?_⟩
    · have h3 : (xs'.take (nss.length + 1))[i]? = (xs.take nss.length ++ [.slice t.a t.n t.c])[i]? := by rw [hx']
      rw [List.getElem?_take_of_lt (by omega), List.getElem?_append_left (by omega), List.getElem?_take_of_lt hlt, e1] at h3
      exact h3
    · rw [List.getElem_append_left hlt]
      exact e2.keep hkb
  · have hie : i = nss.length := by omega
    subst hie
    refine ⟨t, ?_, ?_⟩
    · have h3 : (xs'.take (nss.length + 1))[nss.length]? = (xs.take nss.length ++ [.slice t.a t.n t.c])[nss.length]? := by rw [hx']
      rw [List.getElem?_take_of_lt (by omega), List.getElem?_append_right (by omega), hl] at h3
      simpa using h3
    · rw [List.getElem_append_right (by omega)]
      simp
      exact ht.keep hkb
theorem rgo_le (l : List Int) : ∀ (n p : Nat) (out o : List ByteArray) (q : Nat), l.length - p ≤ n → rgo l p out = some (o, q) → q ≤ l.length := by
  intro n
  induction n with
  | zero =>
    intro p out o q hn h
    rw [rgo_end l p out (by omega)] at h
    cases h
  | succ n ih =>
    intro p out o q hn h
    by_cases h1 : p < l.length ∧ l.getD p 0 ≤ 63
    · by_cases h0 : l.getD p 0 = 0
      · rw [rgo_zero l p out h1 h0] at h
        cases h
        omega
      · by_cases h2 : (l.length : Int) - ((p : Int) + 1) < l.getD p 0
        · rw [rgo_short l p out h1 h0 h2] at h; cases h
        · rw [rgo_step l p out h1 h0 h2] at h
          exact ih _ _ _ _ (by omega) h
    · rw [rgo_end l p out h1] at h; cases h
theorem gName_le {zs : List Int} {p : Nat} {o : List ByteArray} {q : Nat} (h : gName zs p = some (o, q)) : q ≤ zs.length ∧ nck o = 0 ∧ p < zs.length ∧ nread zs p = (o, (q : Int), 0) := by
  unfold gName at h
  split at h
  · rename_i hp
    split at h
    · rename_i o' q' hr
      split at h
      · rename_i hk
        cases h
        refine ⟨rgo_le zs _ _ _ _ _ (Nat.le_refl _) hr, hk, hp, ?_⟩
        unfold nread
        rw [if_neg (by omega), Int.toNat_natCast, hr]
        simp [hk]
      · cases h
    · cases h
  · cases h
theorem gName_no {zs : List Int} {p : Nat} (hp : p < zs.length) (h : gName zs p = none) : nread zs p = ([], 0, 8) := by
  unfold gName at h
  rw [if_pos hp] at h
  unfold nread
  rw [if_neg (by omega), Int.toNat_natCast]
  cases hr : rgo zs p [] with
  | none => rfl
  | some x =>
    obtain ⟨o, q⟩ := x
    rw [hr] at h
    simp only at h ⊢
    split at h
    · cases h
    · rename_i hk
      rw [if_neg hk]
end Go.Proofs.YtfkfjodfjgjbkaaGreatDoor
/- The document's own answer: the next name of a reader. -/
namespace Go.Proofs.YtfkfjodfjgjbkaaGreatDoor
open Go.ChangeShapes Go.WideShapes Go.ChangeAt Go.RowKit
set_option linter.unusedVariables false
set_option linter.unusedSimpArgs false


end Go.Proofs.YtfkfjodfjgjbkaaGreatDoor
/- The document's own answer: the next name of a reader. -/
namespace Go.Proofs.YtfkfjodfjgjbkaaGreatDoor
open Go.ChangeShapes Go.WideShapes Go.ChangeAt Go.RowKit
set_option linter.unusedVariables false
set_option linter.unusedSimpArgs false




theorem one_sl (w : World) (s : Sl) : RdV (w.alloc (.cells #[.slice s.a s.n s.c] 45)) (some ⟨w.heap.size, 0, none⟩) [.slice s.a s.n s.c] := by
  refine .inr ⟨w.heap.size, 0, rfl, by simp, fun i hi => ?_⟩
  have : i = 0 := by simp at hi; omega
  subst this
  unfold World.cell?
  rw [heap_alloc_new]
  rfl
end Go.Proofs.YtfkfjodfjgjbkaaGreatDoor
/- The document's own answer: what data bytes may be. -/
namespace Go.Proofs.YtfkfjodfjgjbkaaGreatDoor
open Go.ChangeShapes Go.WideShapes Go.ChangeAt Go.RowKit
set_option linter.unusedVariables false
set_option linter.unusedSimpArgs false




def GPost (o : Option Dat) (w : World) (e : Ending) (w' : World) : Prop :=
  match o with
  | none => ∃ v, e = .returned (.tuple #[v, .bool false]) ∧ Below w.heap.size w w'
  | some d => ∃ x : DA, e = .returned (.tuple #[.agg #[.slice x.p1.a x.p1.n x.p1.c, .slice x.p2.a x.p2.n x.p2.c, .slice x.p3.a x.p3.n x.p3.c, .slice x.p4.a x.p4.n x.p4.c], .bool true]) ∧ DRd w' x d ∧ Below w.heap.size w w'
/-- No data. -/
abbrev nilDA : DA := ⟨⟨none, 0, 0⟩, ⟨none, 0, 0⟩, ⟨none, 0, 0⟩, ⟨none, 0, 0⟩⟩
theorem SBox.of_block {w w' : World} {b : Nat} {s : Shp} (h : SBox w b s) (hs : w.heap.size ≤ w'.heap.size) (hb : w'.heap[b]? = w.heap[b]?) : SBox w' b s :=
  ⟨(World.cell?_of_block (a := ⟨b, 0, none⟩) hb).trans h.1, (World.cell?_of_block (a := ⟨b, 1, none⟩) hb).trans h.2.1, (World.cell?_of_block (a := ⟨b, 2, none⟩) hb).trans h.2.2.1, (World.cell?_of_block (a := ⟨b, 3, none⟩) hb).trans h.2.2.2.1, (World.cell?_of_block (a := ⟨b, 4, none⟩) hb).trans h.2.2.2.2.1, Nat.lt_of_lt_of_le h.2.2.2.2.2 hs⟩
theorem DBlk.four {w : World} {R : Nat} {y : DA} (h : DBlk w R y) (x : DA) : DBlk (((((w.setCell ⟨R, 0, none⟩ (.slice x.p1.a x.p1.n x.p1.c)).setCell ⟨R, 1, none⟩ (.slice x.p2.a x.p2.n x.p2.c)).setCell ⟨R, 2, none⟩ (.slice x.p3.a x.p3.n x.p3.c)).setCell ⟨R, 3, none⟩ (.slice x.p4.a x.p4.n x.p4.c)).drew) R x :=
  (heap_set (heap_set (heap_set (heap_set h 0 _) 1 _) 2 _) 3 _).trans (by simp)
theorem nil_nrd (w : World) : NRd w ⟨none, 0, 0⟩ [] := ⟨.inl rfl, rfl, ⟨Nat.le_refl _, Nat.zero_le _⟩, fun _ => rfl⟩
theorem nil_urd (w : World) : URd w ⟨none, 0, 0⟩ [] := ⟨.inl rfl, rfl, ⟨Nat.le_refl _, Nat.zero_le _⟩, fun _ => rfl, by simp⟩
theorem nil_trd (w : World) : TRd w ⟨none, 0, 0⟩ [] := ⟨.inl rfl, rfl, ⟨Nat.le_refl _, Nat.zero_le _⟩, fun _ => rfl, by simp⟩
theorem nil_brd (w : World) : BRd w ⟨none, 0, 0⟩ [] := ⟨⟨.inl rfl, by simp⟩, rfl, ⟨Nat.le_refl _, Nat.zero_le _⟩, fun _ => rfl⟩
/-- The boxes that a guess begins with. -/
structure GB (S R g D : Nat) (s : Shp) (w Wb : World) : Prop where
  sb : SBox Wb S s
  rb : DBlk Wb R nilDA
  ne : S ≠ g ∧ S ≠ D ∧ R ≠ g ∧ R ≠ D ∧ S ≠ R
  bel : Below w.heap.size w Wb
  low : w.heap.size ≤ S ∧ w.heap.size ≤ R ∧ w.heap.size ≤ g ∧ w.heap.size ≤ D
theorem GB.sbox {S R g D : Nat} {s : Shp} {w Wb W : World} (h : GB S R g D s w Wb) (k : Kp g D Wb W) : SBox W S s := h.sb.of_block k.size (k.block S h.sb.2.2.2.2.2 h.ne.1 h.ne.2.1)
theorem GB.rblk {S R g D : Nat} {s : Shp} {w Wb W : World} (h : GB S R g D s w Wb) (k : Kp g D Wb W) : DBlk W R nilDA := h.rb.same (k.block R h.rb.lt h.ne.2.2.1 h.ne.2.2.2.1)
theorem GB.below {S R g D : Nat} {s : Shp} {w Wb W : World} (h : GB S R g D s w Wb) (k : Kp g D Wb W) : Below w.heap.size w W := k.below h.bel h.bel.size h.low.2.2.1 h.low.2.2.2
/-- What is read stays, where the result's box is written. -/
theorem GB.store {S R g D : Nat} {s : Shp} {w Wb W : World} (h : GB S R g D s w Wb) (k : Kp g D Wb W) (v0 v1 v2 v3 : Value) : Below w.heap.size w ((((W.setCell ⟨R, 0, none⟩ v0).setCell ⟨R, 1, none⟩ v1).setCell ⟨R, 2, none⟩ v2).setCell ⟨R, 3, none⟩ v3) :=
  ((((h.below k).setCell (p := ⟨R, 0, none⟩) h.low.2.1 v0).setCell (p := ⟨R, 1, none⟩) h.low.2.1 v1).setCell (p := ⟨R, 2, none⟩) h.low.2.1 v2).setCell (p := ⟨R, 3, none⟩) h.low.2.1 v3
theorem tk_all (zs : List Int) (len : Nat) (hl : zs.length = len) : tk zs (some 0) (len : Int) = zs ∧ mv len (some 0) (len : Int) = some len := by
  constructor
  · simp only [tk]
    rw [if_pos ⟨by omega, by simp; omega⟩]
    simp [← hl]
  · simp only [mv]
    rw [if_pos ⟨by omega, by simp⟩]
    simp
theorem own_brd {B : Nat} {w : World} {s : Sl} {zs ys : List Int} (h : Own B w (.slice s.a s.n s.c) zs.length ys) (ht : ys.take zs.length = zs) : BRd w s zs := by
  obtain ⟨sa, sn, sc⟩ := s
  obtain ⟨ao, e, hoa⟩ := h.addr
  injection e with e1 e2 e3
  simp only at e1 e2 e3
  subst e1 e2 e3
  have hrd := hoa.rdTake zs.length
  rw [ht] at hrd
  refine ⟨hrd, rfl, ?_, ?_⟩
  · rcases h with ⟨_, h0, h1⟩ | ⟨g, _, _, _, h1, h2⟩
    · subst h1; simp [h0]
    · exact ⟨h1, by simp only [maxLen] at h2; exact h2⟩
  · intro hn
    rcases h with ⟨_, _, h1⟩ | ⟨g, e, _⟩
    · subst h1; rfl
    · simp only at hn e; rw [hn] at e; cases e
theorem uone (u : Nat) : Value.oneCell' (.int .u32 (u : Int)) = true := rfl
/-- Numbers of one's own. -/
def UOwn (B : Nat) (w : World) (s : Sl) (us : List Nat) : Prop := ∃ xs, OwnV B w 70 (.slice s.a s.n s.c) us.length xs ∧ xs.take us.length = uv us ∧ (∀ u ∈ us, u ≤ 4294967295) ∧ ∀ v ∈ xs, ∃ z : Int, v = .int .u32 z ∧ 0 ≤ z ∧ z ≤ 4294967295
/-- Bytes of one's own. -/
def BOwn (B : Nat) (w : World) (s : Sl) (zs : List Int) : Prop := ∃ ys, Own B w (.slice s.a s.n s.c) zs.length ys ∧ ys.take zs.length = zs
/-- Data of one's own. -/
def DOwn (B : Nat) (w : World) (x : DA) (d : Dat) : Prop := OwnN B w (.slice x.p1.a x.p1.n x.p1.c) d.ns ∧ UOwn B w x.p2 d.us ∧ Own1 B w x.p3 d.ts ∧ BOwn B w x.p4 d.raw
theorem UOwn.keep {B : Nat} {w w' : World} {s : Sl} {us : List Nat} (h : UOwn B w s us) (hb : ∀ j, B ≤ j → j < w.heap.size → w'.heap[j]? = w.heap[j]?) : UOwn B w' s us := by
  obtain ⟨xs, h1, h2⟩ := h
  exact ⟨xs, h1.keep (fun j e hj => hb j (h1.lt j e) hj), h2⟩
theorem own_keep2 {B : Nat} {w w' : World} {v : Value} {n : Nat} {zs : List Int} (h : Own B w v n zs) (hb : ∀ j, B ≤ j → j < w.heap.size → w'.heap[j]? = w.heap[j]?) : Own B w' v n zs := by
  rcases h with h | ⟨g, h1, h2, h3, h4⟩
  · exact .inl h
  · exact .inr ⟨g, h1, h2, h3.same (hb g h2 h3.lt), h4⟩
theorem BOwn.keep {B : Nat} {w w' : World} {s : Sl} {zs : List Int} (h : BOwn B w s zs) (hb : ∀ j, B ≤ j → j < w.heap.size → w'.heap[j]? = w.heap[j]?) : BOwn B w' s zs := by
  obtain ⟨ys, h1, h2⟩ := h
  exact ⟨ys, own_keep2 h1 hb, h2⟩
theorem DOwn.keep {B : Nat} {w w' : World} {x : DA} {d : Dat} (h : DOwn B w x d) (hb : ∀ j, B ≤ j → j < w.heap.size → w'.heap[j]? = w.heap[j]?) : DOwn B w' x d :=
  ⟨h.1.keep hb, h.2.1.keep hb, h.2.2.1.keep (fun j h1 h2 _ => hb j h1 h2), h.2.2.2.keep hb⟩
theorem UOwn.rd {B : Nat} {w : World} {s : Sl} {us : List Nat} (h : UOwn B w s us) : URd w s us := by
  obtain ⟨xs, h1, h2, h3⟩ := h
  obtain ⟨sa, sn, sc⟩ := s
  obtain ⟨ao, e, hnil⟩ := h1.shape
  have hle := h1.le
  injection e with e1 e2 e3
  simp only at e1 e2 e3
  subst e1 e2 e3
  have hrd := h1.rd us.length
  rw [h2] at hrd
  exact ⟨hrd, rfl, ⟨hle.1, by have := hle.2; simp only [maxLen] at this; exact this⟩, hnil, h3.1⟩
theorem BOwn.rd {B : Nat} {w : World} {s : Sl} {zs : List Int} (h : BOwn B w s zs) : BRd w s zs := by
  obtain ⟨ys, h1, h2⟩ := h
  exact own_brd h1 h2
theorem DOwn.rd {B : Nat} {w : World} {x : DA} {d : Dat} (h : DOwn B w x d) : DRd w x d := ⟨h.1.rd, h.2.1.rd, h.2.2.1.rd, h.2.2.2.rd⟩
theorem nil_uown (B : Nat) (w : World) : UOwn B w ⟨none, 0, 0⟩ [] := ⟨[], OwnV.nil B w 70, rfl, by simp, by simp⟩
theorem nil_own1 (B : Nat) (w : World) : Own1 B w ⟨none, 0, 0⟩ [] := ⟨[], OwnT.nil B w _, rfl⟩
theorem nil_bown (B : Nat) (w : World) : BOwn B w ⟨none, 0, 0⟩ [] := ⟨[], .inl ⟨rfl, rfl, rfl⟩, rfl⟩
/-- The answer's box written: data of one's own can be read there still. -/
theorem GB.final {S R g D : Nat} {s : Shp} {w Wb W : World} {x : DA} {d : Dat} (h : GB S R g D s w Wb) (k : Kp g D Wb W) (hd : DOwn Wb.heap.size W x d) :
    DBlk (((((W.setCell ⟨R, 0, none⟩ (.slice x.p1.a x.p1.n x.p1.c)).setCell ⟨R, 1, none⟩ (.slice x.p2.a x.p2.n x.p2.c)).setCell ⟨R, 2, none⟩ (.slice x.p3.a x.p3.n x.p3.c)).setCell ⟨R, 3, none⟩ (.slice x.p4.a x.p4.n x.p4.c)).drew) R x ∧
    Below w.heap.size w (((((W.setCell ⟨R, 0, none⟩ (.slice x.p1.a x.p1.n x.p1.c)).setCell ⟨R, 1, none⟩ (.slice x.p2.a x.p2.n x.p2.c)).setCell ⟨R, 2, none⟩ (.slice x.p3.a x.p3.n x.p3.c)).setCell ⟨R, 3, none⟩ (.slice x.p4.a x.p4.n x.p4.c)).drew) ∧
    DRd (((((W.setCell ⟨R, 0, none⟩ (.slice x.p1.a x.p1.n x.p1.c)).setCell ⟨R, 1, none⟩ (.slice x.p2.a x.p2.n x.p2.c)).setCell ⟨R, 2, none⟩ (.slice x.p3.a x.p3.n x.p3.c)).setCell ⟨R, 3, none⟩ (.slice x.p4.a x.p4.n x.p4.c)).drew) x d := by
  refine ⟨(h.rblk k).four x, (h.store k _ _ _ _).drew, (hd.keep fun j hj hs => ?_).rd⟩
  have hR := h.rb.lt
  have hj' : j ≠ R := by omega
  show ((((W.setCell ⟨R, 0, none⟩ _).setCell ⟨R, 1, none⟩ _).setCell ⟨R, 2, none⟩ _).setCell ⟨R, 3, none⟩ _).heap[j]? = _
  rw [Below.heap_setCell _ _ _ j hj', Below.heap_setCell _ _ _ j hj', Below.heap_setCell _ _ _ j hj', Below.heap_setCell _ _ _ j hj']
end Go.Proofs.YtfkfjodfjgjbkaaGreatDoor
/- Numbers that a reader gives, one behind the other. -/
namespace Go.Proofs.YtfkfjodfjgjbkaaGreatDoor
open Go.ChangeShapes Go.WideShapes Go.ChangeAt Go.RowKit
set_option linter.unusedVariables false
set_option linter.unusedSimpArgs false




/-- Where a reader stands behind k numbers. -/
def adv (len p k wd : Nat) : Option Nat := if p + k * wd ≤ len then some (p + k * wd) else none
def nvl (zs : List Int) (len p wd k : Nat) : Nat := (val (tk zs (adv len p k wd) (wd : Int))).toNat
theorem adv_step (len p k wd : Nat) : mv len (adv len p k wd) (wd : Int) = adv len p (k + 1) wd := by
  unfold adv
  have e : p + (k + 1) * wd = p + k * wd + wd := by rw [Nat.add_mul]; omega
  by_cases h : p + k * wd ≤ len
  · rw [if_pos h]
    simp only [mv]
    rw [e]
    by_cases h2 : p + k * wd + wd ≤ len
    · rw [if_pos ⟨by omega, by omega⟩, if_pos h2]; simp
    · rw [if_neg (by omega), if_neg h2]
  · rw [if_neg h, if_neg (by omega)]; rfl
theorem tk_mem {zs : List Int} {st : Option Nat} {n : Int} : ∀ z ∈ tk zs st n, z ∈ zs := by
  intro z hz
  unfold tk at hz
  split at hz
  · split at hz
    · exact List.mem_of_mem_drop (List.mem_of_mem_take hz)
    · simp at hz
  · simp at hz
theorem nvl_bd (zs : List Int) (hb : ∀ z ∈ zs, 0 ≤ z ∧ z ≤ 255) (len p wd k : Nat) (hw : wd ≤ 4) : 0 ≤ val (tk zs (adv len p k wd) (wd : Int)) ∧ val (tk zs (adv len p k wd) (wd : Int)) ≤ 4294967295 := by
  have hl := tk_len zs (adv len p k wd) wd
  have hm : ∀ z ∈ tk zs (adv len p k wd) (wd : Int), 0 ≤ z ∧ z ≤ 255 := fun z hz => hb z (tk_mem z hz)
  generalize tk zs (adv len p k wd) (wd : Int) = l at *
  match l, hl, hm with
  | [], _, _ => simp [val]
  | [a], _, hm => simp [val]; have := hm a (by simp); omega
  | [a, b], _, hm => simp [val]; have := hm a (by simp); have := hm b (by simp); omega
  | [a, b, c], _, hm => simp [val]; have := hm a (by simp); have := hm b (by simp); have := hm c (by simp); omega
  | [a, b, c, d], _, hm => simp [val]; have := hm a (by simp); have := hm b (by simp); have := hm c (by simp); have := hm d (by simp); omega
  | a :: b :: c :: d :: e :: r, hl, _ => simp at hl; omega
theorem nvl_gNum (zs : List Int) (len p wd k : Nat) (hl : zs.length = len) (h : p + (k + 1) * wd ≤ len) : nvl zs len p wd k = gNum zs (p + k * wd) wd := by
  have e : p + (k + 1) * wd = p + k * wd + wd := by rw [Nat.add_mul]; omega
  unfold nvl adv gNum
  rw [if_pos (by omega)]
  simp only [tk]
  rw [if_pos ⟨by omega, by omega⟩]
  simp
theorem step_append_row {P : Program} {t e : TypeId} {z : Value} {bt : Nat} (T : ElemTy P t e z bt) {w : World} {ops : Array Oper} {o : Oper} {a : Act} {K : Act → World → Prop} {Q : Exit → Act → World → Prop} {E : Prop} (hgd : o.guard = none) (s x : Operand) (tx : TypeId)
    (ho : o.op = .call { callee := .builtin .append, args := #[s, x], argTypes := #[t, tx] }) (B : Nat) (v : Value) (n : Nat) (xs : List Value) (hs : a.eval s = v) (hown : OwnV B w e v n xs)
    (xv : Value) (m : Nat) (news : List Value) (hx : a.eval x = xv) (hsrc : Src P 1 tx xv m news w) (hb : (n + m) * bt ≤ 140737488355328) (h63 : n + m ≤ maxLen) (hB : B ≤ w.heap.size)
    (h : ∀ v' w' xs', Hid (OwnV B w' e v' (n + m) xs') → Hid (xs'.take (n + m) = xs.take n ++ news) → Hid (w.grownBy w' v.ownBlock) → Hid (∀ Q : Value → Prop, Q z → (∀ u ∈ xs, Q u) → (∀ u ∈ news, Q u) → ∀ u ∈ xs', Q u) → K (a.put o.dst v') w') :
    if Region.wanted o (yielded ops a.tmps) = true then Oper.wp P o a w K Q else E := by
  have hw : Region.wanted o (yielded ops a.tmps) = true := by simp [Region.wanted, hgd]
  rw [if_pos hw]
  obtain ⟨v', w', xs', hrun, h2, h3, h4, h5⟩ := run_append_row T w B tx o.type v n xs hown xv m news hsrc hb h63 hB
  unfold Oper.wp execOp
  simp only [ho, resolve, invoke, builtin, Sem.run_bind, Sem.run_pure, Result.andThen_ok, List.map_toArray, List.map_cons, List.map_nil, hs, hx, hrun]
  exact h v' w' xs' h2 h3 h4 h5.1
theorem tyU : ElemTy Tryz.prog 25 70 (.int .u32 0) 4 := ⟨Tryz.underlying25, by kernel_rfl, rfl⟩
theorem one_u (w : World) (u : Int) : RdV (w.alloc (.cells #[.int .u32 u] 70)) (some ⟨w.heap.size, 0, none⟩) [.int .u32 u] := by
  refine .inr ⟨w.heap.size, 0, rfl, by simp, fun i hi => ?_⟩
  have : i = 0 := by simp at hi; omega
  subst this
  unfold World.cell?
  rw [heap_alloc_new]
  rfl
theorem st_nums {w : World} {ops : Array Oper} {o : Oper} {a : Act} {K : Act → World → Prop} {Q : Exit → Act → World → Prop} {E : Prop} (hgd : o.guard = none) (s x : Operand)
    (ho : o.op = .call { callee := .builtin .append, args := #[s, x], argTypes := #[25, 25] }) (B : Nat) (s2 : Sl) (us : List Nat) (hs : a.eval s = .slice s2.a s2.n s2.c) (hown : UOwn B w s2 us)
    (ao : Addr) (hx : a.eval x = .slice (some ao) 1 1) (u : Nat) (hr : RdV w (some ao) [.int .u32 (u : Int)]) (hu : u ≤ 4294967295) (hn : us.length ≤ 1000) (hB : B ≤ w.heap.size)
    (h : ∀ (t' : Sl) w', Hid (UOwn B w' t' (us ++ [u])) → Hid (w.grownBy w' (Value.ownBlock (.slice s2.a s2.n s2.c)) ∧ ∀ j, (Value.ownBlock (.slice s2.a s2.n s2.c)) = some j → B ≤ j) → K (a.put o.dst (.slice t'.a t'.n t'.c)) w') :
    if Region.wanted o (yielded ops a.tmps) = true then Oper.wp Tryz.prog o a w K Q else E := by
  obtain ⟨xs, h1, h2, h3⟩ := hown
  refine step_append_row tyU hgd s x 25 ho B _ us.length xs hs h1 _ 1 [.int .u32 (u : Int)] hx (src_of Tryz.underlying25 hr rfl (by intro v hv; simp at hv; subst hv; rfl)) (by omega) (by simp only [maxLen]; omega) hB ?_
  intro v' w' xs' q1 q2 q3 q4
  obtain ⟨ao', rfl, _⟩ := q1.out.shape
  refine h ⟨ao', us.length + 1, xs'.length⟩ w' ⟨xs', by simpa using q1.out, ?_, ?_, q4.out _ ⟨0, rfl, by omega, by omega⟩ h3.2 (by intro v hv; simp at hv; subst hv; exact ⟨u, rfl, by omega, by omega⟩)⟩ ⟨q3.out, h1.lt⟩
  · have := q2.out
    rw [h2] at this
    simpa [uv] using this
  · intro v hv
    simp only [List.mem_append, List.mem_singleton] at hv
    rcases hv with hv | rfl
    · exact h3.1 v hv
    · exact hu
end Go.Proofs.YtfkfjodfjgjbkaaGreatDoor
/- What reading a name out of octets comes to. -/
namespace Go.Proofs.YtfkfjodfjgjbkaaGreatDoor
open Go.ChangeShapes Go.WideShapes Go.ChangeAt Go.RowKit
set_option linter.unusedVariables false
set_option linter.unusedSimpArgs false




/-- The labels that a reader reads from a place on, and its place behind them; none, if it is bad. -/
def pgo (l : List Int) (p : Nat) (out : List ByteArray) : List ByteArray × Option Nat :=
  if h : p < l.length then
    if l.getD p 0 ≤ 0 then (out, some (p + 1))
    else if (p : Int) + 1 + l.getD p 0 ≤ l.length then pgo l (p + 1 + (l.getD p 0).toNat) (out ++ [lb ((l.drop (p + 1)).take (l.getD p 0).toNat)])
    else (out ++ [lb []], none)
  else (out, none)
termination_by l.length - p
decreasing_by omega
/-- The same, when a length has been read already. -/
def aft (l : List Int) (st : Option Nat) (z : Int) (out : List ByteArray) : List ByteArray × Option Nat :=
  if z ≤ 0 then (out, st) else match st with
    | none => (out, none)
    | some p => if (p : Int) + z ≤ l.length then pgo l (p + z.toNat) (out ++ [lb ((l.drop p).take z.toNat)]) else (out ++ [lb []], none)
theorem take_one (l : List Int) (p : Nat) (h : p < l.length) : (l.drop p).take 1 = [l.getD p 0] := by
  rw [List.drop_eq_getElem_cons h, List.getD_eq_getElem?_getD, List.getElem?_eq_getElem h]
  rfl
theorem nb_in (l : List Int) (p : Nat) (h : p < l.length) : tk l (some p) 1 = [l.getD p 0] ∧ mv l.length (some p) 1 = some (p + 1) ∧ val (tk l (some p) 1) = l.getD p 0 := by
  have e : tk l (some p) 1 = [l.getD p 0] := by
    unfold tk
    simp only
    rw [if_pos ⟨by omega, by omega⟩]
    exact take_one l p h
  refine ⟨e, ?_, by rw [e]; simp [val]⟩
  unfold mv
  simp only
  rw [if_pos ⟨by omega, by omega⟩]
  rfl
theorem nb_out (l : List Int) (p : Nat) (h : ¬ p < l.length) : tk l (some p) 1 = [] ∧ mv l.length (some p) 1 = none ∧ val (tk l (some p) 1) = 0 := by
  have e : tk l (some p) 1 = [] := by
    unfold tk
    simp only
    rw [if_neg (by omega)]
  refine ⟨e, ?_, by rw [e]; rfl⟩
  unfold mv
  simp only
  rw [if_neg (by omega)]
theorem pgo_aft (l : List Int) (p : Nat) (out : List ByteArray) : pgo l p out = aft l (mv l.length (some p) 1) (val (tk l (some p) 1)) out := by
  by_cases h : p < l.length
  · obtain ⟨_, e2, e3⟩ := nb_in l p h
    rw [e2, e3, pgo, dif_pos h]
    unfold aft
    by_cases hz : l.getD p 0 ≤ 0
    · rw [if_pos hz, if_pos hz]
    · rw [if_neg hz, if_neg hz]
      simp only [Int.natCast_add, Int.natCast_one]
  · obtain ⟨_, e2, e3⟩ := nb_out l p h
    rw [e2, e3, pgo, dif_neg h]
    rfl
theorem aft_step (l : List Int) (p : Nat) (z : Int) (out : List ByteArray) (hz : 0 < z) : aft l (some p) z out = aft l (mv l.length (mv l.length (some p) z) 1) (val (tk l (mv l.length (some p) z) 1)) (out ++ [lb (tk l (some p) z)]) := by
  by_cases hf : (p : Int) + z ≤ l.length
  · have e1 : mv l.length (some p) z = some (p + z.toNat) := by unfold mv; simp only; rw [if_pos ⟨by omega, hf⟩]
    have e2 : tk l (some p) z = (l.drop p).take z.toNat := by unfold tk; simp only; rw [if_pos ⟨by omega, hf⟩]
    rw [e1, e2, ← pgo_aft]
    unfold aft
    rw [if_neg (by omega)]
    simp only
    rw [if_pos hf]
  · have e1 : mv l.length (some p) z = none := by unfold mv; simp only; rw [if_neg (by omega)]
    have e2 : tk l (some p) z = [] := by unfold tk; simp only; rw [if_neg (by omega)]
    rw [e1, e2]
    unfold aft
    rw [if_neg (by omega)]
    simp only
    rw [if_neg hf]
    rfl
/-- What a length that has been read says of the reader. -/
theorem nb_pos (l : List Int) (st : Option Nat) (h : 0 < val (tk l st 1)) : ∃ p, st = some p ∧ mv l.length st 1 = some (p + 1) ∧ p < l.length := by
  cases st with
  | none => simp [tk, val] at h
  | some p =>
    by_cases hp : p < l.length
    · exact ⟨p, rfl, (nb_in l p hp).2.1, hp⟩
    · rw [(nb_out l p hp).2.2] at h; omega
theorem nb_bd (l : List Int) (hb : ∀ z ∈ l, 0 ≤ z ∧ z ≤ 255) (st : Option Nat) : 0 ≤ val (tk l st 1) ∧ val (tk l st 1) ≤ 255 := by
  cases st with
  | none => simp [tk, val]
  | some p =>
    by_cases hp : p < l.length
    · rw [(nb_in l p hp).2.2]; exact getD_bd l hb p
    · rw [(nb_out l p hp).2.2]; omega
theorem pgo_pre (l : List Int) : ∀ (n p : Nat) (out : List ByteArray), l.length - p ≤ n → ∃ r, (pgo l p out).1 = out ++ r
  | n, p, out, hn => by
    rw [pgo]
    by_cases h : p < l.length
    · rw [dif_pos h]
      by_cases hz : l.getD p 0 ≤ 0
      · rw [if_pos hz]; exact ⟨[], by simp⟩
      · rw [if_neg hz]
        by_cases hf : (p : Int) + 1 + l.getD p 0 ≤ l.length
        · rw [if_pos hf]
          cases n with
          | zero => omega
          | succ n =>
            obtain ⟨r, hr⟩ := pgo_pre l n (p + 1 + (l.getD p 0).toNat) (out ++ [lb ((l.drop (p + 1)).take (l.getD p 0).toNat)]) (by omega)
            exact ⟨_ :: r, by rw [hr, List.append_assoc]; rfl⟩
        · rw [if_neg hf]; exact ⟨_, rfl⟩
    · rw [dif_neg h]; exact ⟨[], by simp⟩
theorem rgo_pre (l : List Int) : ∀ (n p : Nat) (out o : List ByteArray) (q : Nat), l.length - p ≤ n → rgo l p out = some (o, q) → ∃ r, o = out ++ r
  | n, p, out, o, q, hn, hr => by
    by_cases h : p < l.length ∧ l.getD p 0 ≤ 63
    · by_cases h0 : l.getD p 0 = 0
      · rw [rgo_zero l p out h h0] at hr
        cases hr
        exact ⟨[], by simp⟩
      · by_cases h1 : (l.length : Int) - ((p : Int) + 1) < l.getD p 0
        · rw [rgo_short l p out h h0 h1] at hr; cases hr
        · rw [rgo_step l p out h h0 h1] at hr
          cases n with
          | zero => omega
          | succ n =>
            obtain ⟨r, hr⟩ := rgo_pre l n _ _ o q (by omega) hr
            exact ⟨_ :: r, by rw [hr, List.append_assoc]; rfl⟩
    · rw [rgo_end l p out h] at hr; cases hr
/-- The bytes that the reader is given: from d on, at most 255. -/
def win (zs : List Int) (d : Nat) : List Int := (zs.drop d).take 255
theorem win_len (zs : List Int) (d : Nat) : (win zs d).length = min 255 (zs.length - d) := by simp [win]
theorem win_at (zs : List Int) (d p : Nat) (h : p < (win zs d).length) : (win zs d).getD p 0 = zs.getD (d + p) 0 := by
  rw [win_len] at h
  simp only [win, List.getD_eq_getElem?_getD]
  rw [List.getElem?_take, if_pos (by omega), List.getElem?_drop]
theorem win_cut (zs : List Int) (d p n : Nat) (h : p + n ≤ (win zs d).length) : ((win zs d).drop p).take n = (zs.drop (d + p)).take n := by
  rw [win_len] at h
  apply List.ext_getElem?
  intro i
  simp only [win, List.getElem?_take, List.getElem?_drop]
  by_cases hi : i < n
  · rw [if_pos hi, if_pos hi, if_pos (by omega), Nat.add_assoc]
  · rw [if_neg hi, if_neg hi]
theorem pgo_rgo (zs : List Int) (hb : ∀ z ∈ zs, 0 ≤ z ∧ z ≤ 255) (d : Nat) : ∀ (n p q : Nat) (out o : List ByteArray), (win zs d).length - p ≤ n → pgo (win zs d) p out = (o, some q) → nck o = 0 → rgo zs (d + p) out = some (o, d + q)
  | n, p, q, out, o, hn, hp, hk => by
    rw [pgo] at hp
    by_cases h : p < (win zs d).length
    · rw [dif_pos h, win_at zs d p h] at hp
      have hl := win_len zs d
      have hbd := getD_bd zs hb (d + p)
      by_cases hz : zs.getD (d + p) 0 ≤ 0
      · rw [if_pos hz] at hp
        cases hp
        rw [rgo_zero zs (d + p) out ⟨by omega, by omega⟩ (by omega)]
        rfl
      · rw [if_neg hz] at hp
        by_cases hf : (p : Int) + 1 + zs.getD (d + p) 0 ≤ (win zs d).length
        · rw [if_pos hf] at hp
          have hsz : (lb (((win zs d).drop (p + 1)).take (zs.getD (d + p) 0).toNat)).size = (zs.getD (d + p) 0).toNat := by
            rw [lb_size, List.length_take, List.length_drop]; omega
          have hmem : lb (((win zs d).drop (p + 1)).take (zs.getD (d + p) 0).toNat) ∈ o := by
            obtain ⟨r, hr⟩ := pgo_pre (win zs d) (win zs d).length (p + 1 + (zs.getD (d + p) 0).toNat) (out ++ [lb (((win zs d).drop (p + 1)).take (zs.getD (d + p) 0).toNat)]) (by omega)
            rw [hp] at hr
            simp only at hr
            rw [hr]
            simp
          have h63 := chk_ok ((nck_small hk).2 _ hmem)
          rw [hsz] at h63
          cases n with
          | zero => omega
          | succ n =>
            have := pgo_rgo zs hb d n _ q _ o (by omega) hp hk
            rw [rgo_step zs (d + p) out ⟨by omega, by omega⟩ (by omega) (by omega)]
            rw [win_cut zs d (p + 1) _ (by omega), show d + (p + 1 + (zs.getD (d + p) 0).toNat) = d + p + 1 + (zs.getD (d + p) 0).toNat by omega, show d + (p + 1) = d + p + 1 by omega] at this
            exact this
        · rw [if_neg hf] at hp
          cases hp
    · rw [dif_neg h] at hp
      cases hp
theorem rgo_pgo (zs : List Int) (hb : ∀ z ∈ zs, 0 ≤ z ∧ z ≤ 255) (d : Nat) : ∀ (n p Q : Nat) (out o : List ByteArray), zs.length - (d + p) ≤ n → rgo zs (d + p) out = some (o, Q) → nck o = 0 → nsz out = p + 1 → ∃ q, pgo (win zs d) p out = (o, some q) ∧ Q = d + q
  | n, p, Q, out, o, hn, hr, hk, hs => by
    have hl := win_len zs d
    have hbd := getD_bd zs hb (d + p)
    obtain ⟨r, hpre⟩ := rgo_pre zs zs.length (d + p) out o Q (by omega) hr
    have ho := (nck_small hk).1
    have hle : nsz out ≤ nsz o := by rw [hpre]; have := nsz_append out r; have := nsz_len r; omega
    by_cases h : d + p < zs.length ∧ zs.getD (d + p) 0 ≤ 63
    · have hw : p < (win zs d).length := by omega
      by_cases h0 : zs.getD (d + p) 0 = 0
      · rw [rgo_zero zs (d + p) out h h0] at hr
        cases hr
        refine ⟨p + 1, ?_, rfl⟩
        rw [pgo, dif_pos hw, win_at zs d p hw, if_pos (by omega)]
      · by_cases h1 : (zs.length : Int) - (((d + p : Nat) : Int) + 1) < zs.getD (d + p) 0
        · rw [rgo_short zs (d + p) out h h0 h1] at hr; cases hr
        · rw [rgo_step zs (d + p) out h h0 h1] at hr
          have hsz : (lb ((zs.drop (d + p + 1)).take (zs.getD (d + p) 0).toNat)).size = (zs.getD (d + p) 0).toNat := by
            rw [lb_size, List.length_take, List.length_drop]; omega
          have hs2 : nsz (out ++ [lb ((zs.drop (d + p + 1)).take (zs.getD (d + p) 0).toNat)]) = (p + 1 + (zs.getD (d + p) 0).toNat) + 1 := by
            rw [nsz_snoc, hsz, hs]
          obtain ⟨r2, hpre2⟩ := rgo_pre zs zs.length _ _ o Q (by omega) hr
          have hle2 : nsz (out ++ [lb ((zs.drop (d + p + 1)).take (zs.getD (d + p) 0).toNat)]) ≤ nsz o := by rw [hpre2]; have := nsz_append (out ++ [lb ((zs.drop (d + p + 1)).take (zs.getD (d + p) 0).toNat)]) r2; have := nsz_len r2; omega
          have hf : (p : Int) + 1 + zs.getD (d + p) 0 ≤ (win zs d).length := by omega
          cases n with
          | zero => omega
          | succ n =>
            rw [show d + p + 1 + (zs.getD (d + p) 0).toNat = d + (p + 1 + (zs.getD (d + p) 0).toNat) by omega] at hr
            obtain ⟨q, hq, hQ⟩ := rgo_pgo zs hb d n (p + 1 + (zs.getD (d + p) 0).toNat) Q _ o (by omega) hr hk hs2
            refine ⟨q, ?_, hQ⟩
            rw [pgo, dif_pos hw, win_at zs d p hw, if_neg (by omega), if_pos hf, win_cut zs d (p + 1) _ (by omega), show d + (p + 1) = d + p + 1 by omega]
            exact hq
    · rw [rgo_end zs (d + p) out h] at hr; cases hr
/-- What Read answers, by what its reader comes to. -/
theorem nread_pgo (zs : List Int) (hb : ∀ z ∈ zs, 0 ≤ z ∧ z ≤ 255) (d : Nat) (hd : d < zs.length) : nread zs (d : Int) = match pgo (win zs d) 0 [] with
    | (_, none) => ([], 0, 8)
    | (out, some q) => if nck out = 0 then (out, ((d + q : Nat) : Int), 0) else ([], 0, 8) := by
  unfold nread
  rw [if_neg (by omega), Int.toNat_natCast]
  cases hp : pgo (win zs d) 0 [] with
  | mk o st =>
    have back : ∀ (o2 : List ByteArray) (Q : Nat), rgo zs d [] = some (o2, Q) → nck o2 = 0 → ∃ q, pgo (win zs d) 0 [] = (o2, some q) ∧ Q = d + q := fun o2 Q h hk => rgo_pgo zs hb d zs.length 0 Q [] o2 (by omega) h hk (by simp [nsz])
    cases st with
    | none =>
      simp only
      cases hr : rgo zs d [] with
      | none => rfl
      | some x =>
        obtain ⟨o2, Q⟩ := x
        simp only
        by_cases hk : nck o2 = 0
        · obtain ⟨q, h1, _⟩ := back o2 Q hr hk
          rw [hp] at h1
          cases h1
        · rw [if_neg hk]
    | some q =>
      simp only
      by_cases hk : nck o = 0
      · have := pgo_rgo zs hb d (win zs d).length 0 q [] o (by omega) hp hk
        rw [Nat.add_zero] at this
        rw [this]
      · rw [if_neg hk]
        cases hr : rgo zs d [] with
        | none => rfl
        | some x =>
          obtain ⟨o2, Q⟩ := x
          simp only
          by_cases hk2 : nck o2 = 0
          · obtain ⟨q2, h1, _⟩ := back o2 Q hr hk2
            rw [hp] at h1
            cases h1
            exact absurd hk2 hk
          · rw [if_neg hk2]
end Go.Proofs.YtfkfjodfjgjbkaaGreatDoor
