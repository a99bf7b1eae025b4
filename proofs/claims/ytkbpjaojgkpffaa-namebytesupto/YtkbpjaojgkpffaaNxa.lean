/- The program's names, first part: size, check, copy, fold, parent, above. -/
import Derived.Test.YtkbpjaojgkpffaaNp
namespace Go.Proofs.Ytkbpjaojgkpffaa
open Go.ChangeShapes Go.WideShapes Go.ChangeAt Go.RowKit
set_option linter.unusedVariables false
set_option linter.unusedSimpArgs false

set_option maxRecDepth 100000 in
set_option maxHeartbeats 1000000 in
theorem psize_eq (a : Option Addr) (len cap : Nat) (ss : List ByteArray) (w : World) (hr : RdT w a ss) (hl : ss.length = len) (hm : nsz ss ≤ 1000000000000000) :
    Calls Try.prog 13 #[.slice a len cap] w fun e w' => e = .returned (.int .i64 (nsz ss)) ∧ w' = w := by
  have HR : Hid (RdT w a ss) := hr
  have HL : Hid (ss.length = len) := hl
  have hln : len ≤ 9223372036854775807 := by have := nsz_len ss; omega
  obtain ⟨T, hT⟩ : ∃ T, nsz ss = T := ⟨_, rfl⟩
  have HT : Hid (nsz ss = T) := hT
  rw [hT] at hm ⊢
  clear hr hl hT
  go_enter Try.func13, Try.ntmps13
  go_wp2_with fail
  go_loop [3, 8] (fun n x => ∃ k m : Nat, k ≤ len ∧ m ≤ T ∧ x = .int .i64 k ∧ n = .int .i64 m ∧ Hid (nsz (ss.take k) = m)) (fun _ x => len - (intOf x).toNat)
  case atStart => exact ⟨0, 1, Nat.zero_le _, by rw [← HT.out]; exact nsz_le ss 0, rfl, rfl, rfl⟩
  case round =>
    obtain ⟨k, m, hk, hmT, rfl, rfl, HM⟩ := hrel
    by_cases hlt : k < len
    · have hlt' : (k : Int) < (len : Int) := by omega
      have hks : k < ss.length := by rw [HL.out]; exact hlt
      obtain ⟨b, o, rfl, hb, hc⟩ := HR.out.at k hks
      have hn : nsz (ss.take (k + 1)) = m + ss[k].size + 1 := by rw [take_snocT ss k hks, nsz_snoc, HM.out]
      have hle := nsz_le ss (k + 1)
      rw [hn, HT.out] at hle
      have HN : Hid (nsz (ss.take (k + 1)) = m + ss[k].size + 1) := hn
      clear hn
      generalize ss[k] = s at *
      go_wp2
      go_round
      case rel => exact ⟨k + 1, m + s.size + 1, by omega, hle, by go_num, by go_num, HN⟩
      case measure => simp [intOf]; omega
    · have hge : (len : Int) ≤ (k : Int) := by omega
      have e : m = T := by rw [← HM.out, ← HT.out, List.take_of_length_le (by rw [HL.out]; omega)]
      subst e
      go_wp2
      go_ret
      exact ⟨rfl, rfl⟩

set_option maxRecDepth 100000 in
set_option maxHeartbeats 1000000 in
theorem pcheck_eq (a : Option Addr) (len cap : Nat) (ss : List ByteArray) (w : World) (hr : RdT w a ss) (hl : ss.length = len) (hm : nsz ss ≤ 1000000000000000) (hlen : len ≤ 9223372036854775807) (hz : ∀ s ∈ ss, s.size ≤ 9223372036854775807) :
    Calls Try.prog 11 #[.slice a len cap] w fun e w' => e = .returned (.int .i64 (nck ss)) ∧ w' = w := by
  have HR : Hid (RdT w a ss ∧ ∀ s ∈ ss, s.size ≤ 9223372036854775807) := ⟨hr, hz⟩
  have HL : Hid (ss.length = len) := hl
  have HS : Hid (∀ W, RdT W a ss → Calls Try.prog 13 #[.slice a len cap] W fun e w' => e = .returned (.int .i64 (nsz ss)) ∧ w' = W) := fun W hW => psize_eq a len cap ss W hW hl hm
  obtain ⟨T, hT⟩ : ∃ T, nsz ss = T := ⟨_, rfl⟩
  have HT : Hid (nsz ss = T) := hT
  rw [hT] at hm HS
  clear hr hl hT hz
  go_enter Try.func11, Try.ntmps11
  go_wp2_with fail
  go_loopw [8] (fun x wr => ∃ k : Nat, k ≤ len ∧ x = .int .i64 k ∧ wr = w ∧ Hid (∀ i (h : i < ss.length), i < k → chk ss[i].size = 0)) (fun x _ => len - (intOf x).toNat)
  case atStart => exact ⟨0, Nat.zero_le _, rfl, rfl, fun i _ h => absurd h (by omega)⟩
  case round =>
    obtain ⟨k, hk, rfl, rfl, HK⟩ := hrel
    by_cases hlt : k < len
    · have hlt' : (k : Int) < (len : Int) := by omega
      have hks : k < ss.length := by rw [HL.out]; exact hlt
      obtain ⟨b, o, rfl, hb, hc⟩ := HR.out.1.at k hks
      have HC : Hid (∀ W, Calls Try.prog 54 #[.string ss[k]] W fun e w' => e = .returned (.int .i64 (chk ss[k].size)) ∧ w' = W) := fun W => chk_any ss[k] W (HR.out.2 _ (List.getElem_mem hks))
      rcases chk_cases ss[k].size with hk0 | hk4
      · have HN : Hid (∀ i (h : i < ss.length), i < k + 1 → chk ss[i].size = 0) := by
          intro i h hi
          by_cases e : i = k
          · subst e; exact hk0
          · exact HK.out i h (by omega)
        rw [hk0] at HC
        clear hk0 HK
        generalize ss[k] = s at *
        go_wp2_with fail
        refine (HC.out _).mono ?_
        rintro e w1 ⟨rfl, rfl⟩
        go_wp2
        exact ⟨⟨k + 1, by omega, by go_num, trivial, HN⟩, by simp [intOf]; omega⟩
      · have HE : Hid (nck ss = 4) := by
          show nck ss = 4
          unfold nck
          rw [if_neg (fun h => by have := h _ (List.getElem_mem hks); rw [hk4] at this; cases this)]
        rw [hk4] at HC
        clear hk4 HK
        generalize ss[k] = s at *
        go_wp2_with fail
        refine (HC.out _).mono ?_
        rintro e w1 ⟨rfl, rfl⟩
        go_wp2
        go_ret
        exact ⟨by rw [HE.out]; rfl, rfl⟩
    · have hge : (len : Int) ≤ (k : Int) := by omega
      have HO : Hid (labsOk ss) := by
        intro s hs
        obtain ⟨i, hi, rfl⟩ := List.getElem_of_mem hs
        exact HK.out i hi (by have := HL.out; omega)
      by_cases hb : 255 < T
      · have HE : Hid (nck ss = 5) := by show nck ss = 5; unfold nck; rw [if_pos HO.out, HT.out, if_pos hb]
        have hb' : (255 : Int) < (T : Int) := by omega
        clear HK HO
        go_wp2_with fail
        refine (HS.out _ HR.out.1).mono ?_
        rintro e w1 ⟨rfl, rfl⟩
        go_wp2
        go_ret
        exact ⟨by rw [HE.out]; rfl, rfl⟩
      · have HE : Hid (nck ss = 0) := by show nck ss = 0; unfold nck; rw [if_pos HO.out, HT.out, if_neg hb]
        have hb' : ¬ (255 : Int) < (T : Int) := by omega
        clear HK HO
        go_wp2_with fail
        refine (HS.out _ HR.out.1).mono ?_
        rintro e w1 ⟨rfl, rfl⟩
        go_wp2
        go_ret
        exact ⟨by rw [HE.out]; rfl, rfl⟩
theorem pm_check {a : Option Addr} {n : Nat} {ss : List ByteArray} {w : World} (c : Nat) (h : Nm w a n ss) : Calls Try.prog 11 #[.slice a n c] w fun e w' => e = .returned (.int .i64 (nck ss)) ∧ w' = w :=
  pcheck_eq a n c ss w h.rd h.len (by have := h.sz; omega) (by have := h.n63; omega) (fun s hs => by have := h.mem s hs; omega)
theorem pcheck_any (a : Option Addr) (n c : Nat) (ss : List ByteArray) (w : World) (h : Nm w a n ss) : Calls Try.prog 11 #[.slice a n c] w fun e w' => e = .returned (.int .i64 (nck ss)) ∧ Hid (Below w.heap.size w w') :=
  (pm_check c h).mono fun e w' h => ⟨h.1, by rw [h.2]; exact Below.refl _ _⟩
theorem psize_any (a : Option Addr) (n c : Nat) (ss : List ByteArray) (w : World) (h : Nm w a n ss) : Calls Try.prog 13 #[.slice a n c] w fun e w' => e = .returned (.int .i64 (nsz ss)) ∧ Hid (Below w.heap.size w w') :=
  (psize_eq a n c ss w h.rd h.len (by have := h.sz; omega)).mono fun e w' h => ⟨h.1, by rw [h.2]; exact Below.refl _ _⟩

set_option maxRecDepth 100000 in
set_option maxHeartbeats 800000 in
theorem pcopy_eq (a : Option Addr) (cap len : Nat) (ss : List ByteArray) (M : Nat) (w : World) (hr : RdT w a ss) (hl : ss.length = len) (hM : ∀ s ∈ ss, s.size ≤ M) (hm : len ≤ 8796093022000) :
    Calls Try.prog 30 #[.slice a len cap] w (CopyPost ss M w) := by
  have HR : Hid (RdT w a ss ∧ ∀ s ∈ ss, s.size ≤ M) := ⟨hr, hM⟩
  have HL : Hid (ss.length = len) := hl
  clear hr hl hM
  go_enter Try.func30, Try.ntmps30
  go_wp2_with (at_builtin; refine wpList_append_T tyN _ rfl _ _ 23 9 Try.underlying23 rfl w.heap.size _ 0 [] M rfl (OwnT.nil _ _ _) a len cap ss rfl HR.out.1 HL.out HR.out.2 (by omega) (Nat.le_refl _) ?_; intro v' w' ys hO hT hG)
  go_ret
  refine ⟨v', ys, rfl, ?_, ?_, ?_⟩
  · have h := hO.out
    rw [Nat.zero_add, ← HL.out] at h
    exact h
  · have h := hT.out
    rw [Nat.zero_add, ← HL.out] at h
    simpa using h
  · exact (Below.refl _ _).grown hG (Nat.le_refl _) (by intro k hk; cases hk)
theorem pm_copy {a : Option Addr} {n : Nat} {ss : List ByteArray} {w : World} (c : Nat) (h : Nm w a n ss) : Calls Try.prog 30 #[.slice a n c] w (CopyPost ss 1000000000000 w) :=
  pcopy_eq a c n ss 1000000000000 w h.rd h.len h.mem (by have := h.n63; omega)
theorem pcopy_any (a : Option Addr) (n c : Nat) (ss : List ByteArray) (w : World) (h : Nm w a n ss) : Calls Try.prog 30 #[.slice a n c] w (CopyPost ss 1000000000000 w) := pm_copy c h

set_option maxRecDepth 100000 in
set_option maxHeartbeats 1000000 in
theorem pparent_any (a : Option Addr) (n c : Nat) (ss : List ByteArray) (w : World) (h : Nm w a n ss) (hc : n ≤ c ∧ c ≤ 9223372036854775807) :
    Calls Try.prog 23 #[.slice a n c] w (NPost (nparent ss).1 (nparent ss).2 w) := by
  have KC : Hid (Calls Try.prog 11 #[.slice a n c] w fun e w' => e = .returned (.int .i64 (nck ss)) ∧ w' = w) := pm_check c h
  have hn := h.n63
  have HN : Hid (Nm w a n ss) := h
  by_cases hk : nck ss = 0
  · rw [hk] at KC
    by_cases h0 : n = 0
    · have hp : nparent ss = ([], 9) := by unfold nparent; rw [if_pos hk, if_pos (by rw [h.len]; exact h0)]
      rw [hp]
      subst h0
      clear h hk hp
      go_enter Try.func23, Try.ntmps23
      go_wp2_with fail
      refine KC.out.mono ?_
      rintro e w1 ⟨rfl, rfl⟩
      go_wp2
      go_ret2
      exact npost_none rfl (Below.refl _ _)
    · have hp : nparent ss = (ss.drop 1, 0) := by unfold nparent; rw [if_pos hk, if_neg (by rw [h.len]; exact h0)]
      rw [hp]
      obtain ⟨b, o, ha, hb0, hc0⟩ := h.rd.at 0 (by rw [h.len]; omega)
      have h0' : ((n : Int) == 0) = false := by simp; omega
      have h1 : (1 : Int) ≤ (n : Int) := by omega
      subst ha
      clear hb0 hc0 h hk hp
      go_enter Try.func23, Try.ntmps23
      go_wp2_with fail
      refine KC.out.mono ?_
      rintro e w1 ⟨rfl, rfl⟩
      go_wp2_with fail
      all_goals
        refine (pm_copy _ (HN.out.cut 1 ?_)).mono ?_
        · first
            | (intro _ b' o' e; cases e; rfl)
            | (intro hlt; have := HN.out.len; omega)
        rintro e w2 ⟨v, ys, rfl, H2⟩
        go_wp2
        go_ret2
        exact ⟨v, ys, rfl, by simpa using H2⟩
  · have hp : nparent ss = ([], nck ss) := by unfold nparent; rw [if_neg hk]
    rw [hp]
    generalize nck ss = q at *
    have hq : (q != 0) = true := bne_iff_ne.2 hk
    clear h hk hp
    go_enter Try.func23, Try.ntmps23
    go_wp2_with fail
    refine KC.out.mono ?_
    rintro e w1 ⟨rfl, rfl⟩
    go_wp2
    go_ret2
    exact npost_none rfl (Below.refl _ _)

set_option maxRecDepth 100000 in
set_option maxHeartbeats 1000000 in
theorem pabove_cut (b o n c k p : Nat) (ss : List ByteArray) (w : World) (KC : Hid (Calls Try.prog 11 #[.slice (some ⟨b, o, none⟩) n c] w fun e w' => e = .returned (.int .i64 0) ∧ w' = w)) (KP : Hid (Calls Try.prog 30 #[.slice (some ⟨b, o + p, none⟩) (n - p) (c - p)] w (CopyPost (ss.drop p) 1000000000000 w)))
    (hn : n ≤ 1000000000000) (hc : n ≤ c ∧ c ≤ 9223372036854775807) (hkn : k ≤ n) (hp : n - k = p) (hcp : ¬ c = p) :
    Calls Try.prog 25 #[.slice (some ⟨b, o, none⟩) n c, .int .i64 k] w (NPost (ss.drop p) 0 w) := by
  have hd1 : ¬ (k : Int) < 0 := by omega
  have hd2 : ¬ (n : Int) < (k : Int) := by omega
  have e1 : (n : Int) - (k : Int) = (p : Int) := by omega
  have hpn : (p : Int) ≤ (n : Int) := by omega
  have hpc : (p : Int) ≤ (c : Int) := by omega
  go_enter Try.func25, Try.ntmps25
  go_wp2_with fail
  refine KC.out.mono ?_
  rintro e w1 ⟨rfl, rfl⟩
  go_wp2_with fail
  refine KP.out.mono ?_
  rintro e w2 ⟨v, ys, rfl, H2⟩
  go_wp2
  go_ret2
  exact ⟨v, ys, rfl, H2⟩
set_option maxRecDepth 100000 in
set_option maxHeartbeats 1000000 in
theorem pabove_end (x : Addr) (n k : Nat) (ss : List ByteArray) (w : World) (KC : Hid (Calls Try.prog 11 #[.slice (some x) n n] w fun e w' => e = .returned (.int .i64 0) ∧ w' = w)) (KP : Hid (Calls Try.prog 30 #[.slice (some x) 0 0] w (CopyPost [] 1000000000000 w)))
    (hn : n ≤ 1000000000000) (hk : k = 0) :
    Calls Try.prog 25 #[.slice (some x) n n, .int .i64 k] w (NPost [] 0 w) := by
  subst hk
  have hd1 : ¬ (0 : Int) < 0 := by omega
  have hd2 : ¬ (n : Int) < 0 := by omega
  go_enter Try.func25, Try.ntmps25
  go_wp2_with fail
  refine KC.out.mono ?_
  rintro e w1 ⟨rfl, rfl⟩
  go_wp2_with fail
  refine KP.out.mono ?_
  rintro e w2 ⟨v, ys, rfl, H2⟩
  go_wp2
  go_ret2
  exact ⟨v, ys, rfl, H2⟩
set_option maxRecDepth 100000 in
set_option maxHeartbeats 1000000 in
theorem pabove_zero (x : Option Addr) (c : Nat) (w : World) (KC : Hid (Calls Try.prog 11 #[.slice x 0 c] w fun e w' => e = .returned (.int .i64 0) ∧ w' = w)) (KP : Hid (∀ y, Calls Try.prog 30 #[.slice y 0 c] w (CopyPost [] 1000000000000 w)))
    (hc : c ≤ 9223372036854775807) : Calls Try.prog 25 #[.slice x 0 c, .int .i64 0] w (NPost [] 0 w) := by
  cases x with
  | none =>
    go_enter Try.func25, Try.ntmps25
    go_wp2_with fail
    refine KC.out.mono ?_
    rintro e w1 ⟨rfl, rfl⟩
    go_wp2_with fail
    all_goals
      refine (KP.out _).mono ?_
      rintro e w2 ⟨v, ys, rfl, H2⟩
      go_wp2
      go_ret2
      exact ⟨v, ys, rfl, H2⟩
  | some x =>
    go_enter Try.func25, Try.ntmps25
    go_wp2_with fail
    refine KC.out.mono ?_
    rintro e w1 ⟨rfl, rfl⟩
    go_wp2_with fail
    all_goals
      refine (KP.out _).mono ?_
      rintro e w2 ⟨v, ys, rfl, H2⟩
      go_wp2
      go_ret2
      exact ⟨v, ys, rfl, H2⟩

set_option maxRecDepth 100000 in
set_option maxHeartbeats 1000000 in
theorem pabove_any (a : Option Addr) (n c : Nat) (d : Int) (ss : List ByteArray) (w : World) (h : Nm w a n ss) (hc : n ≤ c ∧ c ≤ 9223372036854775807) :
    Calls Try.prog 25 #[.slice a n c, .int .i64 d] w (NPost (nabove ss d).1 (nabove ss d).2 w) := by
  have KC : Hid (Calls Try.prog 11 #[.slice a n c] w fun e w' => e = .returned (.int .i64 (nck ss)) ∧ w' = w) := pm_check c h
  have hn := h.n63
  by_cases hk : nck ss = 0
  · rw [hk] at KC
    by_cases hd : d < 0 ∨ (n : Int) < d
    · have hp : nabove ss d = ([], 2) := by unfold nabove; rw [if_pos hk, if_pos (by rw [h.len]; exact hd)]
      rw [hp]
      have hd' : d < 0 ∨ (¬ d < 0 ∧ (n : Int) < d) := by omega
      clear h hk hp hd
      rcases hd' with hd | ⟨hd, hd2⟩
      all_goals
        go_enter Try.func25, Try.ntmps25
        go_wp2_with fail
        refine KC.out.mono ?_
        rintro e w1 ⟨rfl, rfl⟩
        go_wp2
        go_ret2
        exact npost_none rfl (Below.refl _ _)
    · obtain ⟨k, rfl⟩ : ∃ k : Nat, d = (k : Int) := ⟨d.toNat, by omega⟩
      have hkn : k ≤ n := by omega
      have hp : nabove ss (k : Int) = (ss.drop (n - k), 0) := by unfold nabove; rw [if_pos hk, if_neg (by rw [h.len]; exact hd), h.len, Int.toNat_natCast]
      rw [hp]
      by_cases h0 : n = 0
      · have hs : ss = [] := List.eq_nil_of_length_eq_zero (by rw [h.len]; exact h0)
        have hk0 : k = 0 := by omega
        subst hs; subst h0; subst hk0
        exact pabove_zero a c w KC (fun y => pm_copy c (nm_nil w y)) hc.2
      · obtain ⟨b, o, rfl, _, _⟩ := h.rd.at 0 (by rw [h.len]; omega)
        by_cases hcp : c = n - k
        · have hk0 : k = 0 := by omega
          have hcn : c = n := by omega
          have e : ss.drop (n - k) = [] := List.drop_eq_nil_of_le (by rw [h.len]; omega)
          rw [e]
          subst hcn
          exact pabove_end _ c k ss w KC (pm_copy 0 (nm_nil w _)) hn hk0
        · exact pabove_cut b o n c k (n - k) ss w KC (pm_copy _ (h.cut (n - k) (fun _ b' o' e => by cases e; rfl))) hn hc hkn rfl hcp
  · have hp : nabove ss d = ([], nck ss) := by unfold nabove; rw [if_neg hk]
    rw [hp]
    generalize nck ss = q at *
    have hq : (q != 0) = true := bne_iff_ne.2 hk
    clear h hk hp
    go_enter Try.func25, Try.ntmps25
    go_wp2_with fail
    refine KC.out.mono ?_
    rintro e w1 ⟨rfl, rfl⟩
    go_wp2
    go_ret2
    exact npost_none rfl (Below.refl _ _)

end Go.Proofs.Ytkbpjaojgkpffaa
