/- The document's own answer: the number of a word. -/
import Derived.Test.YtjfpkpblifbljaaDoorRn
namespace Go.Proofs.YtjfpkpblifbljaaDoor
open Go.ChangeShapes Go.WideShapes Go.ChangeAt Go.RowKit
set_option linter.unusedVariables false
set_option linter.unusedSimpArgs false

theorem below_drewN {B : Nat} {a w : World} (h : Below B a w) (n : Nat) : Below B a (w.drewN n) := h.trans ⟨rfl, rfl, rfl, Nat.le_refl _, fun _ _ => rfl⟩
theorem readF_nf (ps : Own4) (pre : List UInt8) (below : Nat) (s : List UInt8) (h : ps.find? (fun q => q.1 == s) = none) : readF ps pre below s = if pre.isPrefixOf s then numF (s.drop pre.length) below else none := by
  unfold readF digF
  rw [h]
  by_cases hp : pre.isPrefixOf s = true
  · simp [hp]
  · simp [hp]
set_option maxRecDepth 100000 in
set_option maxHeartbeats 1000000 in
theorem rread_any (b1 b2 N : Nat) (pre : ByteArray) (many : Nat) (hmany : many ≤ 65536) (ps : Own4) (hN : ps.length = N) (hN2 : N ≤ 1000) (hpre : pre.size ≤ 100) (hps : ∀ p ∈ ps, p.2 < many) (t : ByteArray) (ht : t.size ≤ 140737488355000) (w : World) (hR : RK w b1 b2 ps) :
    Calls Tryd.prog 12 #[.agg #[.slice (some ⟨b1, 0, none⟩) N N, .slice (some ⟨b2, 0, none⟩) N N, .string pre, .int .i64 many], .string t] w fun e w' => e = .returned (.int .i64 (orNo (readF ps pre.data.toList many (up t).data.toList))) ∧ Hid (Below w.heap.size w w') := by
  have HB : Hid (Below w.heap.size w (w.alloc (.cells #[.slice (some ⟨b1, 0, none⟩) N N, .slice (some ⟨b2, 0, none⟩) N N, .string pre, .int .i64 many] 37))) := (Below.refl _ _).alloc (Nat.le_refl _) _
  have HX : Hid (RBox (w.alloc (.cells #[.slice (some ⟨b1, 0, none⟩) N N, .slice (some ⟨b2, 0, none⟩) N N, .string pre, .int .i64 many] 37)) w.heap.size b1 b2 N pre many) := RBox.new w b1 b2 N pre many
  have HR : Hid (RK (w.alloc (.cells #[.slice (some ⟨b1, 0, none⟩) N N, .slice (some ⟨b2, 0, none⟩) N N, .string pre, .int .i64 many] 37)) b1 b2 ps) := hR.below HB.out
  have HN : Hid (ps.length = N) := hN
  have HP : Hid (∀ p ∈ ps, p.2 < many) := hps
  have KG : Hid (∀ W, Calls Tryd.prog 32 #[.string t] W fun e w' => e = .returned (.string (up t)) ∧ Hid (Below W.heap.size W w')) := fun W => rgreat_any t W (by omega)
  have hus : (up t).size ≤ 140737488355000 := by rw [up_size]; exact ht
  clear hR hN hps ht
  generalize up t = u at *
  go_enter Tryd.func12, Tryd.ntmps12
  go_wp2_with fail
  generalize (w.alloc (.cells #[.slice (some ⟨b1, 0, none⟩) N N, .slice (some ⟨b2, 0, none⟩) N N, .string pre, .int .i64 many] 37)) = W1 at *
  refine (KG.out W1).mono ?_
  rintro e W2 ⟨rfl, H2⟩
  replace HX : Hid (RBox W2 w.heap.size b1 b2 N pre many) := HX.out.below H2.out
  replace HR : Hid (RK W2 b1 b2 ps) := HR.out.below H2.out
  replace HB : Hid (Below w.heap.size w W2) := HB.out.trans (H2.out.mono HB.out.size)
  clear H2 KG
  go_wp2_with fail
  go_loopw [5] (fun x wr => wr = W2 ∧ ∃ j : Nat, j ≤ N ∧ x = .int .i64 (j : Int) ∧ Hid (∀ p ∈ ps.take j, (p.1 == u.data.toList) = false)) (fun x _ => N - (intOf x).toNat)
  case atStart => exact ⟨rfl, 0, Nat.zero_le _, rfl, by intro p hp; simp at hp⟩
  case round =>
    obtain ⟨hwr, j, hj, rfl, HF⟩ := hrel
    subst hwr
    have c0 := HX.out.1
    have c1 := HX.out.2.1
    by_cases hlt : j < N
    · have hlt' : (j : Int) < (N : Int) := by omega
      obtain ⟨p, hp⟩ : ∃ p, ps[j]? = some p := ⟨_, List.getElem?_eq_getElem (by rw [HN.out]; exact hlt)⟩
      obtain ⟨d1, d2⟩ := HR.out.2.2 j p hp
      have HS : Hid (((p.1 == u.data.toList) = true → ps.find? (fun q => q.1 == u.data.toList) = some p) ∧ ((p.1 == u.data.toList) = false → ∀ q ∈ ps.take (j + 1), (q.1 == u.data.toList) = false)) := find_step (fun (q : List UInt8 × Nat) => q.1 == u.data.toList) ps j HF.out p hp
      cases he : p.1 == u.data.toList with
      | true =>
        have hq : (p.1 == u.toList) = true := by rw [ByteArray.toList_eq]; exact he
        have HT : Hid (orNo (readF ps pre.data.toList many u.data.toList) = (p.2 : Int)) := by
          show _ = _
          rw [readF_own ps _ many _ p (HS.out.1 he) (HP.out p (List.mem_of_getElem? hp))]
          rfl
        clear HS he
        go_wp2_with fail
        go_ret
        exact ⟨by rw [HT.out]; rfl, HB.out⟩
      | false =>
        have hq : (p.1 == u.toList) = false := by rw [ByteArray.toList_eq]; exact he
        have HS2 : Hid (∀ q ∈ ps.take (j + 1), (q.1 == u.data.toList) = false) := HS.out.2 he
        clear HS he d2
        go_wp2_with fail
        refine ⟨⟨by first | rfl | trivial, j + 1, by omega, by go_num, HS2⟩, ?_⟩
        simp [intOf]; omega
    · have hge : ¬ (j : Int) < (N : Int) := by omega
      have hfind := find_end (fun (q : List UInt8 × Nat) => q.1 == u.data.toList) ps j HF.out (by rw [HN.out]; omega)
      have HQ : Hid (readF ps pre.data.toList many u.data.toList = if pre.data.toList.isPrefixOf u.data.toList then numF (u.data.toList.drop pre.data.toList.length) many else none) := by
        exact readF_nf ps pre.data.toList many u.data.toList hfind
      have c2 := HX.out.2.2.1
      have c3 := HX.out.2.2.2.1
      have hbl := HX.out.2.2.2.2
      clear HF HR HN HP hfind
      obtain ⟨b, hb⟩ : ∃ b, b = w.heap.size := ⟨_, rfl⟩
      rw [← hb] at c0 c1 c2 c3 hbl HB ⊢
      have Hb : Hid (b = w.heap.size) := hb
      clear hb HX
      obtain ⟨p, hp⟩ : ∃ p, pre.size = p := ⟨_, rfl⟩
      have hpl : pre.data.toList.length = p := by rw [← Lib.size_eq]; exact hp
      by_cases h1 : u.size ≤ p
      · have HE : Hid (orNo (readF ps pre.data.toList many u.data.toList) = -1) := by
          show _ = _
          rw [HQ.out]
          split
          · rw [hpl, List.drop_of_length_le (by rw [← Lib.size_eq]; exact h1), numF_none (fun n _ h => dec_ne n h.symm)]
            rfl
          · rfl
        have h1' : decide ((u.size : Int) ≤ (p : Int)) = true := decide_eq_true (by omega)
        clear HQ hpl
        go_upto_region 8 with fail
        go_quiet (fail)
        go_wp2_with fail
        go_ret
        refine ⟨by rw [HE.out]; rfl, ?_⟩
        rw [← Hb.out]
        exact below_drewN HB.out _
      · have h1' : decide ((u.size : Int) ≤ (p : Int)) = false := decide_eq_false (by omega)
        have hraw := Lib.hasPrefix_raw u pre
        rw [hp, decide_eq_true (show p ≤ u.size by omega), Bool.true_and] at hraw
        have hpu : (p : Int) ≤ (u.size : Int) := by omega
        have hp0 : (0 : Int) ≤ (p : Int) := by omega
        cases hpf : Lib.hasPrefix u.data.toList pre.data.toList with
        | false =>
          rw [hpf] at hraw
          have HE : Hid (orNo (readF ps pre.data.toList many u.data.toList) = -1) := by
            show _ = _
            rw [HQ.out, if_neg (by unfold Lib.hasPrefix at hpf; rw [hpf]; simp)]
            rfl
          clear HQ hpl hpf
          go_upto_region 8 with fail
          go_quiet (fail)
          go_wp2_with fail
          go_ret
          refine ⟨by rw [HE.out]; rfl, ?_⟩
          rw [← Hb.out]
          exact below_drewN HB.out _
        | true =>
          rw [hpf] at hraw
          have hex : (u.extract p u.size).data.toList = u.data.toList.drop p := by
            rw [Lib.extract_data]
            exact List.take_of_length_le (by rw [List.length_drop, ← Lib.size_eq]; omega)
          have HE : Hid (orNo (readF ps pre.data.toList many u.data.toList) = orNo (numF (u.extract p u.size).data.toList many)) := by
            show _ = _
            rw [HQ.out, if_pos (by unfold Lib.hasPrefix at hpf; exact hpf), hpl, hex]
          have hsz : (u.extract p u.size).size ≤ 9223372036854775807 := by
            have e1 := Lib.size_eq (u.extract p u.size)
            rw [hex, List.length_drop, ← Lib.size_eq] at e1
            omega
          have KN : Hid (∀ W, Calls Tryd.prog 33 #[.string (u.extract p u.size), .int .i64 many] W fun e w' => e = .returned (.int .i64 (orNo (numF (u.extract p u.size).data.toList many))) ∧ w' = W) := fun W => rnumber_any _ hsz many hmany W
          clear HQ hpl hpf hex hsz
          go_upto_region 8 with fail
          go_quiet (fail)
          go_upto_region 10 with fail
          have e3 : (wr.drewN nq).cell? ⟨b, 3, none⟩ = some (.int .i64 many) := c3
          have HBq : Hid (Below b w (wr.drewN nq)) := below_drewN HB.out _
          clear c0 c1 c2 c3 HB
          generalize wr.drewN nq = Wq at *
          go_quiet (first
            | (go_at_call 33; exact Calls.quiet_of_same (KN.out _)))
          go_wp2_with fail
          go_ret
          refine ⟨by rw [HE.out, Lib.extract_data]; rfl, ?_⟩
          rw [← Hb.out]
          first
          | exact below_drewN HBq.out _
          | exact HBq.out.drew
          | exact HBq.out
end Go.Proofs.YtjfpkpblifbljaaDoor
