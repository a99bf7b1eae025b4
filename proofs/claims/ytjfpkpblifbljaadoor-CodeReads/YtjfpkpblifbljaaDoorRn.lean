/- The document's own answer: the number of digits. -/
import Derived.Test.YtjfpkpblifbljaaDoorRq
namespace Go.Proofs.YtjfpkpblifbljaaDoor
open Go.ChangeShapes Go.WideShapes Go.ChangeAt Go.RowKit
set_option linter.unusedVariables false
set_option linter.unusedSimpArgs false

/-- The number, or -1. -/
def orNo (o : Option Nat) : Int := match o with | some n => (n : Int) | none => -1
theorem dv_take (s : ByteArray) (k : Nat) (h : k < s.size) : dv (s.data.toList.take (k + 1)) = 10 * dv (s.data.toList.take k) + (s[k].toNat - 48) := by
  have hl : k < s.data.toList.length := by rw [← Lib.size_eq]; exact h
  rw [List.take_succ_eq_append_getElem hl, dv_snoc]
  rfl
theorem dv_lt (l : List UInt8) (h : ∀ b ∈ l, b.toNat ≤ 57) : dv l < 10 ^ l.length := by
  induction hn : l.length generalizing l with
  | zero =>
    have : l = [] := List.eq_nil_of_length_eq_zero hn
    subst this
    simp [dv]
  | succ k ih =>
    have h0 : l ≠ [] := by intro e; subst e; simp at hn
    obtain ⟨m, b, e⟩ : ∃ m b, l = m ++ [b] := ⟨l.dropLast, l.getLast h0, (List.dropLast_concat_getLast h0).symm⟩
    subst e
    have hb := h b (by simp)
    have hm := ih m (fun x hx => h x (by simp [hx])) (by simpa using hn)
    rw [dv_snoc, Nat.pow_succ]
    omega
set_option maxRecDepth 100000 in
set_option maxHeartbeats 1000000 in
theorem rnumber_any (s : ByteArray) (hs : s.size ≤ 9223372036854775807) (below : Nat) (hb : below ≤ 65536) (w : World) :
    Calls Tryd.prog 33 #[.string s, .int .i64 below] w fun e w' => e = .returned (.int .i64 (orNo (numF s.data.toList below))) ∧ w' = w := by
  have HN : Hid (∀ n, n < below → s.data.toList = Lib.decDigits n → 1 ≤ s.size ∧ s.size ≤ 10 ∧ (1 < s.size → ∀ h : 0 < s.size, s[0].toNat ≠ 48) ∧ ∀ k (h : k < s.size), 48 ≤ s[k].toNat ∧ s[k].toNat ≤ 57) := by
    intro n hn he
    have hl : s.size = (Lib.decDigits n).length := by rw [Lib.size_eq, he]
    have h5 := dec_len n (by omega)
    refine ⟨?_, by omega, ?_, ?_⟩
    · have := dec_ne n
      cases hd : Lib.decDigits n with
      | nil => exact absurd hd this
      | cons b r => rw [hl, hd]; simp
    · intro h1 h2 h0
      have hn0 : 0 < n := by
        rcases Nat.eq_zero_or_pos n with rfl | h
        · rw [hl, dec_small (by omega)] at h1; simp at h1
        · exact h
      obtain ⟨b, r, e1, e2⟩ := dec_head n hn0
      have : s.data.toList[0]? = some s[0] := Lib.data_getElem? s 0 h2
      rw [he, e1] at this
      simp at this
      rw [← this] at h0
      exact e2 h0
    · intro k hk
      have := Lib.data_getElem? s k hk
      rw [he] at this
      exact dec_digit n _ (List.mem_of_getElem? this)
  have none_of : (¬ (1 ≤ s.size ∧ s.size ≤ 10 ∧ (1 < s.size → ∀ h : 0 < s.size, s[0].toNat ≠ 48) ∧ ∀ k (h : k < s.size), 48 ≤ s[k].toNat ∧ s[k].toNat ≤ 57)) → orNo (numF s.data.toList below) = -1 := by
    intro h
    rw [numF_none (fun n hn he => h (HN.out n hn he))]
    rfl
  have HO : Hid ((¬ (1 ≤ s.size ∧ s.size ≤ 10 ∧ (1 < s.size → ∀ h : 0 < s.size, s[0].toNat ≠ 48) ∧ ∀ k (h : k < s.size), 48 ≤ s[k].toNat ∧ s[k].toNat ≤ 57)) → orNo (numF s.data.toList below) = -1) := none_of
  clear HN none_of
  by_cases h1 : s.size < 1
  · have e := HO.out (by omega)
    have h1' : (s.size : Int) < 1 := by omega
    have HE : Hid (orNo (numF s.data.toList below) = -1) := e
    clear e HO
    go_enter Tryd.func33, Tryd.ntmps33
    go_wp2_with fail
    go_ret
    exact ⟨by rw [HE.out]; rfl, rfl⟩
  · by_cases h2 : 10 < s.size
    · have e := HO.out (by omega)
      have h2' : (10 : Int) < (s.size : Int) := by omega
      have HE : Hid (orNo (numF s.data.toList below) = -1) := e
      clear e HO
      go_enter Tryd.func33, Tryd.ntmps33
      go_wp2_with fail
      go_ret
      exact ⟨by rw [HE.out]; rfl, rfl⟩
    · have h0 : 0 < s.size := by omega
      by_cases h3 : 1 < s.size ∧ s[0].toNat = 48
      · have e := HO.out (fun h => h.2.2.1 h3.1 h0 h3.2)
        have h3a : (1 : Int) < (s.size : Int) := by omega
        have h3b : (s[0].toNat : Int) = 48 := by omega
        have h3c : s[0].toNat = 48 := h3.2
        have HE : Hid (orNo (numF s.data.toList below) = -1) := e
        clear e HO h3
        go_enter Tryd.func33, Tryd.ntmps33
        go_wp2_with fail
        go_ret
        exact ⟨by rw [HE.out]; rfl, rfl⟩
      · have hor : ¬ 1 < s.size ∨ (1 < s.size ∧ ¬ s[0].toNat = 48) := by omega
        have HD : Hid (1 < s.size → s[0].toNat ≠ 48) := fun h e => h3 ⟨h, e⟩
        clear h3
        have h2' : ¬ (10 : Int) < (s.size : Int) := by omega
        have h1' : ¬ (s.size : Int) < 1 := by omega
        have hcase : ¬ (1 : Int) < (s.size : Int) ∨ ((1 : Int) < (s.size : Int) ∧ ((s[0].toNat : Int) == 48) = false) := by
          rcases hor with h | ⟨h, h'⟩
          · exact .inl (by omega)
          · refine .inr ⟨by omega, ?_⟩
            simp; omega
        clear hor
        go_enter Tryd.func33, Tryd.ntmps33
        go_upto_region 1 with fail
        go_cut [24] from 7 to 24 (fun s24 wx => wx = w ∧ s24 = .bool false)
        case first =>
          rcases hcase with h | ⟨h, h'⟩
          all_goals
            go_wp2_with fail
            go_meet
            exact ⟨rfl, rfl⟩
        case rest =>
          obtain ⟨hwc, rfl⟩ := hcut
          subst hwc
          clear hcase
          go_wp2_with fail
          go_loopw [5, 6] (fun v x wr => wr = wc ∧ ∃ k : Nat, k ≤ s.size ∧ x = .int .i64 (k : Int) ∧ v = .int .i64 ((dv (s.data.toList.take k) : Nat) : Int) ∧ Hid (∀ j (h : j < s.size), j < k → 48 ≤ s[j].toNat ∧ s[j].toNat ≤ 57)) (fun _ x _ => s.size - (intOf x).toNat)
          case atStart => exact ⟨rfl, 0, Nat.zero_le _, rfl, rfl, fun j h hj => absurd hj (Nat.not_lt_zero _)⟩
          case round =>
            obtain ⟨hwr, k, hk, rfl, rfl, HF⟩ := hrel
            subst hwr
            by_cases hlt : k < s.size
            · have hlt' : (k : Int) < (s.size : Int) := by omega
              obtain ⟨c, hc⟩ : ∃ c, s[k].toNat = c := ⟨_, rfl⟩
              have hcb : c ≤ 255 := by have := s[k].toNat_lt; omega
              by_cases hd : 48 ≤ c ∧ c ≤ 57
              · have hv := dv_lt (s.data.toList.take k) (by
                  intro b hb
                  obtain ⟨j, hj⟩ := List.mem_iff_getElem?.1 hb
                  have hjk : j < k := by
                    have := (List.getElem?_eq_some_iff.1 hj).1
                    simp at this; omega
                  rw [List.getElem?_take_of_lt hjk, Lib.data_getElem? s j (by omega)] at hj
                  have := HF.out j (by omega) hjk
                  rw [← Option.some.inj hj]
                  exact this.2)
                have hp : 10 ^ (s.data.toList.take k).length ≤ 10 ^ 10 := Nat.pow_le_pow_right (by decide) (by simp; omega)
                have h10 : (10 : Nat) ^ 10 = 10000000000 := by decide
                have hst := dv_take s k hlt
                rw [hc] at hst
                have HS : Hid (∀ j (h : j < s.size), j < k + 1 → 48 ≤ s[j].toNat ∧ s[j].toNat ≤ 57) := by
                  intro j h hj
                  by_cases e : j = k
                  · subst e; rw [hc]; exact hd
                  · exact HF.out j h (by omega)
                have HV : Hid (dv (s.data.toList.take (k + 1)) = 10 * dv (s.data.toList.take k) + (c - 48)) := hst
                obtain ⟨v2, hv2⟩ : ∃ v2, dv (s.data.toList.take (k + 1)) = v2 := ⟨_, rfl⟩
                rw [hv2] at hst
                have HV2 : Hid (dv (s.data.toList.take (k + 1)) = v2) := hv2
                clear hv2 HV
                generalize dv (s.data.toList.take k) = v at *
                have w1 : IntKind.i64.wrap (10 * (v : Int)) = 10 * (v : Int) := by rw [IntKind.wrap_i64]; omega
                have w2 : IntKind.u8.wrap ((c : Int) - 48) = ((c - 48 : Nat) : Int) := by rw [IntKind.wrap_u8]; omega
                have w3 : IntKind.i64.wrap ((c - 48 : Nat) : Int) = ((c - 48 : Nat) : Int) := by rw [IntKind.wrap_i64]; omega
                have w4 : IntKind.i64.wrap (10 * (v : Int) + ((c - 48 : Nat) : Int)) = (v2 : Int) := by rw [IntKind.wrap_i64]; omega
                have d1 : ¬ (c : Int) < 48 := by omega
                have d2 : ¬ (57 : Int) < (c : Int) := by omega
                clear hv hp h10 hst HF hd
                go_wp2_with fail
                refine ⟨⟨trivial, k + 1, by omega, by go_num, by rw [HV2.out], HS⟩, ?_⟩
                simp [intOf]; omega
              · have HE : Hid (orNo (numF s.data.toList below) = -1) := HO.out (fun h => by have := h.2.2.2 k hlt; omega)
                have hor : (c : Int) < 48 ∨ (¬ (c : Int) < 48 ∧ (57 : Int) < (c : Int)) := by omega
                clear HF HO HD hd
                generalize dv (s.data.toList.take k) = v at *
                rcases hor with d1 | ⟨d1, d2⟩
                all_goals
                  go_wp2_with fail
                  go_ret
                  exact ⟨by rw [HE.out]; rfl, rfl⟩
            · have hge : ¬ (k : Int) < (s.size : Int) := by omega
              have hks : k = s.size := by omega
              have htake : s.data.toList.take k = s.data.toList := List.take_of_length_le (by rw [← Lib.size_eq]; omega)
              rw [htake]
              have hl : s.data.toList.length = s.size := (Lib.size_eq s).symm
              have hdec := dec_of_digits s.data.toList (by intro e; rw [e] at hl; simp at hl; omega) (by
                intro b hb
                obtain ⟨j, hj⟩ := List.mem_iff_getElem?.1 hb
                have hjs : j < s.size := by rw [← hl]; exact (List.getElem?_eq_some_iff.1 hj).1
                rw [Lib.data_getElem? s j hjs] at hj
                rw [← Option.some.inj hj]
                exact HF.out j hjs (by omega)) (by
                intro h1 b r e
                have hb0 := Lib.data_getElem? s 0 h0
                rw [e] at hb0
                simp at hb0
                rw [hb0]
                exact HD.out (by omega))
              have HQ : Hid (orNo (numF s.data.toList below) = if dv s.data.toList < below then ((dv s.data.toList : Nat) : Int) else -1) := by
                show _ = _
                unfold numF
                by_cases hb2 : dv s.data.toList < below
                · rw [if_pos ⟨hdec.1, hb2⟩, if_pos hb2]; rfl
                · rw [if_neg (fun h => hb2 h.2), if_neg hb2]; rfl
              have hvb : dv s.data.toList < 100000000000 := by
                have := dv_lt s.data.toList (by
                  intro b hb
                  obtain ⟨j, hj⟩ := List.mem_iff_getElem?.1 hb
                  have hjs : j < s.size := by rw [← hl]; exact (List.getElem?_eq_some_iff.1 hj).1
                  rw [Lib.data_getElem? s j hjs] at hj
                  rw [← Option.some.inj hj]
                  exact (HF.out j hjs (by omega)).2)
                have hp : 10 ^ s.data.toList.length ≤ 10 ^ 10 := Nat.pow_le_pow_right (by decide) (by omega)
                have h10 : (10 : Nat) ^ 10 = 10000000000 := by decide
                omega
              clear hdec htake HF HO HD hl
              generalize dv s.data.toList = v at *
              by_cases hvb2 : v < below
              · have HE : Hid (orNo (numF s.data.toList below) = (v : Int)) := by
                  show _ = _
                  rw [HQ.out, if_pos hvb2]
                have hb' : ¬ (below : Int) ≤ (v : Int) := by omega
                clear HQ
                go_wp2_with fail
                go_ret
                exact ⟨by rw [HE.out]; rfl, rfl⟩
              · have HE : Hid (orNo (numF s.data.toList below) = -1) := by
                  show _ = _
                  rw [HQ.out, if_neg hvb2]
                have hb' : (below : Int) ≤ (v : Int) := by omega
                clear HQ
                go_wp2_with fail
                go_ret
                exact ⟨by rw [HE.out]; rfl, rfl⟩
end Go.Proofs.YtjfpkpblifbljaaDoor
