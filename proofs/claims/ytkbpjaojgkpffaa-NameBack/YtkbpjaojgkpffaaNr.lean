/- Names, as the document has them: their size, whether they may be, what they have in common. -/
import Derived.Test.YtkbpjaojgkpffaaTm
import Derived.Test.YtkbpjaojgkpffaaRtx
import Derived.Test.YtkbpjaojgkpffaaRpar
namespace Go.Proofs.Ytkbpjaojgkpffaa
open Go.ChangeShapes Go.WideShapes Go.ChangeAt Go.RowKit
set_option linter.unusedVariables false
set_option linter.unusedSimpArgs false

/-- The size of a name. -/
def nsz : List ByteArray → Nat
  | [] => 1
  | s :: r => s.size + 1 + nsz r
theorem nsz_snoc (l : List ByteArray) (s : ByteArray) : nsz (l ++ [s]) = nsz l + s.size + 1 := by
  induction l with
  | nil => simp [nsz]; omega
  | cons x l ih => simp only [List.cons_append, nsz, ih]; omega
theorem nsz_le (l : List ByteArray) (k : Nat) : nsz (l.take k) ≤ nsz l := by
  induction l generalizing k with
  | nil => simp [nsz]
  | cons x l ih =>
    cases k with
    | zero => simp [nsz]; omega
    | succ k => simp only [List.take_succ_cons, nsz]; have := ih k; omega
theorem take_snocT (ss : List ByteArray) (k : Nat) (h : k < ss.length) : ss.take (k + 1) = ss.take k ++ [ss[k]] := List.take_succ_eq_append_getElem h
/-- Whether all labels may be; the error of a name. -/
def labsOk (ss : List ByteArray) : Prop := ∀ s ∈ ss, chk s.size = 0
instance (ss : List ByteArray) : Decidable (labsOk ss) := by unfold labsOk; exact inferInstance
def nck (ss : List ByteArray) : Int := if labsOk ss then (if 255 < nsz ss then 5 else 0) else 4
theorem chk_cases (n : Nat) : chk n = 0 ∨ chk n = 4 := by unfold chk; split <;> simp

set_option maxRecDepth 100000 in
set_option maxHeartbeats 1000000 in
theorem refsize_any (a : Option Addr) (len cap : Nat) (ss : List ByteArray) (w : World) (hr : RdT w a ss) (hl : ss.length = len) (hm : nsz ss ≤ 1000000000000000) :
    Calls Try.prog 14 #[.slice a len cap] w fun e w' => e = .returned (.int .i64 (nsz ss)) ∧ w' = w := by
  have HR : Hid (RdT w a ss) := hr
  have HL : Hid (ss.length = len) := hl
  have hln : len ≤ 9223372036854775807 := by
    have : ∀ l : List ByteArray, l.length ≤ nsz l := by
      intro l; induction l with
      | nil => simp [nsz]
      | cons x l ih => simp only [List.length_cons, nsz]; omega
    have := this ss
    omega
  obtain ⟨T, hT⟩ : ∃ T, nsz ss = T := ⟨_, rfl⟩
  have HT : Hid (nsz ss = T) := hT
  rw [hT] at hm ⊢
  clear hr hl hT
  go_enter Try.func14, Try.ntmps14
  go_wp2_with fail
  go_loop [3, 4] (fun n x => ∃ k m : Nat, k ≤ len ∧ m ≤ T ∧ x = .int .i64 k ∧ n = .int .i64 m ∧ Hid (nsz (ss.take k) = m)) (fun _ x => len - (intOf x).toNat)
  case atStart => exact ⟨0, 1, Nat.zero_le _, by rw [← HT.out]; exact nsz_le ss 0, rfl, rfl, rfl⟩
  case round =>
    obtain ⟨k, m, hk, hmT, rfl, rfl, HM⟩ := hrel
    by_cases hlt : k < len
    · have hlt' : (k : Int) < (len : Int) := by omega
      have hks : k < ss.length := by rw [HL.out]; exact hlt
      obtain ⟨b, o, rfl, hb, hc⟩ := HR.out.at k hks
      have hn : nsz (ss.take (k + 1)) = m + ss[k].size + 1 := by rw [take_snocT ss k hks, nsz_snoc, HM.out]
      have hle := nsz_le ss (k + 1)
      rw [hn, HT.out] at hle
      have HN : Hid (nsz (ss.take (k + 1)) = m + ss[k].size + 1) := hn
      clear hn
      generalize ss[k] = s at *
      go_wp2
      go_round
      case rel => exact ⟨k + 1, m + s.size + 1, by omega, hle, by go_num, by go_num, HN⟩
      case measure => simp [intOf]; omega
    · have hge : (len : Int) ≤ (k : Int) := by omega
      have e : m = T := by rw [← HM.out, ← HT.out, List.take_of_length_le (by rw [HL.out]; omega)]
      subst e
      go_wp2
      go_ret
      exact ⟨rfl, rfl⟩

set_option maxRecDepth 100000 in
set_option maxHeartbeats 1000000 in
theorem refcheck_any (a : Option Addr) (len cap : Nat) (ss : List ByteArray) (w : World) (hr : RdT w a ss) (hl : ss.length = len) (hm : nsz ss ≤ 1000000000000000) (hlen : len ≤ 9223372036854775807) (hz : ∀ s ∈ ss, s.size ≤ 9223372036854775807) :
    Calls Try.prog 12 #[.slice a len cap] w fun e w' => e = .returned (.int .i64 (nck ss)) ∧ w' = w := by
  have HR : Hid (RdT w a ss ∧ ∀ s ∈ ss, s.size ≤ 9223372036854775807) := ⟨hr, hz⟩
  have HL : Hid (ss.length = len) := hl
  have HS : Hid (∀ W, RdT W a ss → Calls Try.prog 14 #[.slice a len cap] W fun e w' => e = .returned (.int .i64 (nsz ss)) ∧ w' = W) := fun W hW => refsize_any a len cap ss W hW hl hm
  obtain ⟨T, hT⟩ : ∃ T, nsz ss = T := ⟨_, rfl⟩
  have HT : Hid (nsz ss = T) := hT
  rw [hT] at hm HS
  clear hr hl hT hz
  go_enter Try.func12, Try.ntmps12
  go_wp2_with fail
  go_loopw [3] (fun x wr => ∃ k : Nat, k ≤ len ∧ x = .int .i64 k ∧ wr = w ∧ Hid (∀ i (h : i < ss.length), i < k → chk ss[i].size = 0)) (fun x _ => len - (intOf x).toNat)
  case atStart => exact ⟨0, Nat.zero_le _, rfl, rfl, fun i _ h => absurd h (by omega)⟩
  case round =>
    obtain ⟨k, hk, rfl, rfl, HK⟩ := hrel
    by_cases hlt : k < len
    · have hlt' : (k : Int) < (len : Int) := by omega
      have hks : k < ss.length := by rw [HL.out]; exact hlt
      obtain ⟨b, o, rfl, hb, hc⟩ := HR.out.1.at k hks
      have HC : Hid (∀ W, Calls Try.prog 55 #[.string ss[k]] W fun e w' => e = .returned (.int .i64 (chk ss[k].size)) ∧ w' = W) := fun W => rchk_any ss[k] W (HR.out.2 _ (List.getElem_mem hks))
      rcases chk_cases ss[k].size with hk0 | hk4
      · have HN : Hid (∀ i (h : i < ss.length), i < k + 1 → chk ss[i].size = 0) := by
          intro i h hi
          by_cases e : i = k
          · subst e; exact hk0
          · exact HK.out i h (by omega)
        rw [hk0] at HC
        clear hk0 HK
        generalize ss[k] = s at *
        go_wp2_with fail
        refine (HC.out _).mono ?_
        rintro e w1 ⟨rfl, rfl⟩
        go_wp2
        exact ⟨⟨k + 1, by omega, by go_num, trivial, HN⟩, by simp [intOf]; omega⟩
      · have HE : Hid (nck ss = 4) := by
          show nck ss = 4
          unfold nck
          rw [if_neg (fun h => by have := h _ (List.getElem_mem hks); rw [hk4] at this; cases this)]
        rw [hk4] at HC
        clear hk4 HK
        generalize ss[k] = s at *
        go_wp2_with fail
        refine (HC.out _).mono ?_
        rintro e w1 ⟨rfl, rfl⟩
        go_wp2
        go_ret
        exact ⟨by rw [HE.out]; rfl, rfl⟩
    · have hge : (len : Int) ≤ (k : Int) := by omega
      have HO : Hid (labsOk ss) := by
        intro s hs
        obtain ⟨i, hi, rfl⟩ := List.getElem_of_mem hs
        exact HK.out i hi (by have := HL.out; omega)
      by_cases hb : 255 < T
      · have HE : Hid (nck ss = 5) := by show nck ss = 5; unfold nck; rw [if_pos HO.out, HT.out, if_pos hb]
        have hb' : (255 : Int) < (T : Int) := by omega
        clear HK HO
        go_wp2_with fail
        refine (HS.out _ HR.out.1).mono ?_
        rintro e w1 ⟨rfl, rfl⟩
        go_wp2
        go_ret
        exact ⟨by rw [HE.out]; rfl, rfl⟩
      · have HE : Hid (nck ss = 0) := by show nck ss = 0; unfold nck; rw [if_pos HO.out, HT.out, if_neg hb]
        have hb' : ¬ (255 : Int) < (T : Int) := by omega
        clear HK HO
        go_wp2_with fail
        refine (HS.out _ HR.out.1).mono ?_
        rintro e w1 ⟨rfl, rfl⟩
        go_wp2
        go_ret
        exact ⟨by rw [HE.out]; rfl, rfl⟩

/-- How many first labels of two lists are the same; how two lists stand, the first labels first. -/
def comR : List ByteArray → List ByteArray → Nat
  | x :: a, y :: b => if cmp x y = 0 then comR a b + 1 else 0
  | _, _ => 0
def cmpR : List ByteArray → List ByteArray → Int
  | [], [] => 0
  | [], _ :: _ => -1
  | _ :: _, [] => 1
  | x :: a, y :: b => if cmp x y = 0 then cmpR a b else cmp x y
/-- The same, of names: from the last label on. -/
def ncom (a b : List ByteArray) : Nat := comR a.reverse b.reverse
def ncmp (a b : List ByteArray) : Int := cmpR a.reverse b.reverse
theorem rev_drop (ss : List ByteArray) (k : Nat) (h : k < ss.length) : ss.reverse.drop k = ss[ss.length - 1 - k] :: ss.reverse.drop (k + 1) := by
  rw [List.drop_eq_getElem_cons (by simpa using h)]
  simp
theorem comR_le : ∀ a b : List ByteArray, comR a b ≤ a.length ∧ comR a b ≤ b.length
  | [], _ => by simp [comR]
  | _ :: _, [] => by simp [comR]
  | x :: a, y :: b => by
    unfold comR
    have := comR_le a b
    split <;> simp <;> omega
theorem ncom_le (a b : List ByteArray) : ncom a b ≤ a.length ∧ ncom a b ≤ b.length := by
  have := comR_le a.reverse b.reverse
  simpa [ncom] using this

set_option maxRecDepth 100000 in
set_option maxHeartbeats 2000000 in
theorem refcommon_any (a b : Option Addr) (n m c d : Nat) (ss ts : List ByteArray) (w : World) (hr : RdT w a ss) (hr' : RdT w b ts) (hn : ss.length = n) (hm : ts.length = m) (hn63 : n ≤ 1000000000000) (hm63 : m ≤ 1000000000000) (hs : ∀ s ∈ ss, s.size ≤ 140737488355000) (ht : ∀ s ∈ ts, s.size ≤ 140737488355000) :
    Calls Try.prog 22 #[.slice a n c, .slice b m d] w fun e w' => e = .returned (.int .i64 (ncom ss ts)) ∧ Hid (Below w.heap.size w w') := by
  have HR : Hid (RdT w a ss ∧ RdT w b ts ∧ (∀ s ∈ ss, s.size ≤ 140737488355000) ∧ ∀ s ∈ ts, s.size ≤ 140737488355000) := ⟨hr, hr', hs, ht⟩
  have HL : Hid (ss.length = n ∧ ts.length = m) := ⟨hn, hm⟩
  obtain ⟨T, hT⟩ : ∃ T, ncom ss ts = T := ⟨_, rfl⟩
  have HT : Hid (ncom ss ts = T) := hT
  rw [hT]
  clear hr hr' hn hm hs ht hT
  go_enter Try.func22, Try.ntmps22
  go_wp2_with fail
  go_loopw [5] (fun x wr => ∃ k : Nat, k ≤ n ∧ k ≤ m ∧ x = .int .i64 k ∧ Hid (T = k + comR (ss.reverse.drop k) (ts.reverse.drop k)) ∧ Hid (Below w.heap.size w wr)) (fun x _ => n - (intOf x).toNat)
  case atStart => exact ⟨0, Nat.zero_le _, Nat.zero_le _, rfl, (show T = 0 + _ by rw [← HT.out, Nat.zero_add]; rfl), Below.refl _ _⟩
  case round =>
    obtain ⟨k, hk, hkm, rfl, HK, HB⟩ := hrel
    by_cases hlt : k < n ∧ k < m
    · obtain ⟨h1, h2⟩ := hlt
      have h1' : (k : Int) < (n : Int) := by omega
      have h2' : (k : Int) < (m : Int) := by omega
      have g1 : k < ss.length := by rw [HL.out.1]; exact h1
      have g2 : k < ts.length := by rw [HL.out.2]; exact h2
      have p1 : ss.length - 1 - k < ss.length := by omega
      have p2 : ts.length - 1 - k < ts.length := by omega
      obtain ⟨b1, o1, rfl, l1, c1⟩ := (HR.out.1.below HB.out).at (ss.length - 1 - k) p1
      obtain ⟨b2, o2, rfl, l2, c2⟩ := (HR.out.2.1.below HB.out).at (ts.length - 1 - k) p2
      have z1 := HR.out.2.2.1 _ (List.getElem_mem p1)
      have z2 := HR.out.2.2.2 _ (List.getElem_mem p2)
      have HS : Hid (T = k + if cmp ss[ss.length - 1 - k] ts[ts.length - 1 - k] = 0 then comR (ss.reverse.drop (k + 1)) (ts.reverse.drop (k + 1)) + 1 else 0) := by
        have := HK.out
        rw [rev_drop ss k g1, rev_drop ts k g2] at this
        exact this
      have KC : Hid (∀ W, Calls Try.prog 58 #[.string ss[ss.length - 1 - k], .string ts[ts.length - 1 - k]] W fun e w' => e = .returned (.int .i64 (cmp ss[ss.length - 1 - k] ts[ts.length - 1 - k])) ∧ Hid (Below W.heap.size W w')) := fun W => rcompare_any _ _ W z1 z2
      generalize ss[ss.length - 1 - k] = s at *
      generalize ts[ts.length - 1 - k] = t at *
      rw [HL.out.1] at c1
      rw [HL.out.2] at c2
      generalize cmp s t = q at *
      obtain ⟨j1, hj1⟩ : ∃ j, n - 1 - k = j := ⟨_, rfl⟩
      obtain ⟨j2, hj2⟩ : ∃ j, m - 1 - k = j := ⟨_, rfl⟩
      rw [hj1] at c1
      rw [hj2] at c2
      have e1 : IntKind.i64.wrap ((n : Int) - 1) = (n : Int) - 1 := by rw [IntKind.wrap_i64]; omega
      have e2 : IntKind.i64.wrap ((n : Int) - 1 - (k : Int)) = (j1 : Int) := by rw [IntKind.wrap_i64]; omega
      have e3 : IntKind.i64.wrap ((m : Int) - 1) = (m : Int) - 1 := by rw [IntKind.wrap_i64]; omega
      have e4 : IntKind.i64.wrap ((m : Int) - 1 - (k : Int)) = (j2 : Int) := by rw [IntKind.wrap_i64]; omega
      have q1 : (j1 : Int) < (n : Int) := by omega
      have q2 : (j2 : Int) < (m : Int) := by omega
      clear p1 p2 z1 z2 g1 g2 HK hj1 hj2
      go_wp2_with fail
      go_region_held3 (fun W => W.cell? ⟨b1, o1 + j1, none⟩ = some (.string s) ∧ W.cell? ⟨b2, o2 + j2, none⟩ = some (.string t)) (go_keep) (first
        | (go_at_call 58; refine (KC.out _).mono ?_; rintro e wy ⟨rfl, HY⟩; have y1 : wy.cell? ⟨b1, o1 + j1, none⟩ = some (.string s) := (HY.out.cell (p := ⟨b1, o1 + j1, none⟩) l1).trans c1; have y2 : wy.cell? ⟨b2, o2 + j2, none⟩ = some (.string t) := (HY.out.cell (p := ⟨b2, o2 + j2, none⟩) l2).trans c2))
      have HB2 : Hid (Below w.heap.size w wy) := (HB.out.trans ((Below.refl _ _).drew)).trans (HY.out.mono HB.out.size)
      clear y1 y2 c1 c2 HY KC
      by_cases hq : q = 0
      · have HN : Hid (T = k + 1 + comR (ss.reverse.drop (k + 1)) (ts.reverse.drop (k + 1))) := by
          have := HS.out
          rw [if_pos hq] at this
          show T = _
          omega
        subst hq
        clear HS
        go_wp2
        exact ⟨⟨k + 1, by omega, by omega, by go_num, HN, HB2⟩, by simp [intOf]; omega⟩
      · have HN : Hid (T = k) := by
          have := HS.out
          rw [if_neg hq] at this
          exact this
        have hq' : (q == 0) = false := by simp [hq]
        clear HS hq
        go_wp2
        go_ret
        exact ⟨by rw [HN.out]; rfl, HB2.out⟩
    · have HN : Hid (T = k) := by
        have := HK.out
        have e : comR (ss.reverse.drop k) (ts.reverse.drop k) = 0 := by
          have h1 := HL.out
          have hor : n ≤ k ∨ m ≤ k := by omega
          rcases hor with h | h
          · rw [List.drop_eq_nil_of_le (by simp; omega)]; simp [comR]
          · rw [show ts.reverse.drop k = [] from List.drop_eq_nil_of_le (by simp; omega)]
            cases ss.reverse.drop k <;> simp [comR]
        rw [e] at this
        exact this
      have hor : k = n ∨ (k < n ∧ k = m) := by omega
      clear HK hlt
      rcases hor with h | ⟨h, h'⟩
      · subst h
        have hd : decide ((k : Int) < (k : Int)) = false := by simp
        go_wp2_with fail
        go_quiet (fail)
        have HB2 : Hid (Below w.heap.size w (wr.drewN nq)) := HB.out.trans ⟨rfl, rfl, rfl, Nat.le_refl _, fun _ _ => rfl⟩
        generalize wr.drewN nq = W2 at *
        go_wp2
        go_ret
        exact ⟨by rw [HN.out]; rfl, HB2.out⟩
      · subst h'
        have hd : decide ((k : Int) < (k : Int)) = false := by simp
        have hd2 : decide ((k : Int) < (n : Int)) = true := by simp; omega
        go_wp2_with fail
        go_quiet (fail)
        have HB2 : Hid (Below w.heap.size w (wr.drewN nq)) := HB.out.trans ⟨rfl, rfl, rfl, Nat.le_refl _, fun _ _ => rfl⟩
        generalize wr.drewN nq = W2 at *
        go_wp2
        go_ret
        exact ⟨by rw [HN.out]; rfl, HB2.out⟩

theorem cmpR_com : ∀ a b : List ByteArray, cmpR a b = if comR a b = a.length ∧ comR a b = b.length then 0 else if comR a b = a.length then -1 else if comR a b = b.length then 1 else cmp (a.getD (comR a b) ⟨#[]⟩) (b.getD (comR a b) ⟨#[]⟩)
  | [], [] => by simp [cmpR, comR]
  | [], _ :: _ => by simp [cmpR, comR]
  | _ :: _, [] => by simp [cmpR, comR]
  | x :: a, y :: b => by
    unfold cmpR comR
    by_cases h : cmp x y = 0
    · rw [if_pos h, if_pos h, cmpR_com a b]
      simp
    · rw [if_neg h, if_neg h]
      simp

set_option maxRecDepth 100000 in
set_option maxHeartbeats 2000000 in
theorem refcompare_any (a b : Option Addr) (n m c d : Nat) (ss ts : List ByteArray) (w : World) (hr : RdT w a ss) (hr' : RdT w b ts) (hn : ss.length = n) (hm : ts.length = m) (hn63 : n ≤ 1000000000000) (hm63 : m ≤ 1000000000000) (hs : ∀ s ∈ ss, s.size ≤ 140737488355000) (ht : ∀ s ∈ ts, s.size ≤ 140737488355000) :
    Calls Try.prog 18 #[.slice a n c, .slice b m d] w fun e w' => e = .returned (.int .i64 (ncmp ss ts)) ∧ Hid (Below w.heap.size w w') := by
  have HR : Hid (RdT w a ss ∧ RdT w b ts ∧ (∀ s ∈ ss, s.size ≤ 140737488355000) ∧ ∀ s ∈ ts, s.size ≤ 140737488355000) := ⟨hr, hr', hs, ht⟩
  have HL : Hid (ss.length = n ∧ ts.length = m) := ⟨hn, hm⟩
  have KM : Hid (∀ W, RdT W a ss → RdT W b ts → Calls Try.prog 22 #[.slice a n c, .slice b m d] W fun e w' => e = .returned (.int .i64 (ncom ss ts)) ∧ Hid (Below W.heap.size W w')) := fun W h1 h2 => refcommon_any a b n m c d ss ts W h1 h2 hn hm hn63 hm63 hs ht
  have hle := ncom_le ss ts
  rw [hn, hm] at hle
  have HE : Hid (ncmp ss ts = if ncom ss ts = n ∧ ncom ss ts = m then 0 else if ncom ss ts = n then -1 else if ncom ss ts = m then 1 else cmp (ss.reverse.getD (ncom ss ts) ⟨#[]⟩) (ts.reverse.getD (ncom ss ts) ⟨#[]⟩)) := by
    have := cmpR_com ss.reverse ts.reverse
    rw [List.length_reverse, List.length_reverse, hn, hm] at this
    exact this
  generalize ncom ss ts = k at *
  clear hr hr' hn hm hs ht
  have hk1 : k ≤ 1000000000000 := by omega
  go_enter Try.func18, Try.ntmps18
  go_wp2_with fail
  refine (KM.out _ HR.out.1 HR.out.2.1).mono ?_
  rintro e w1 ⟨rfl, H1⟩
  by_cases h1 : k = n
  · by_cases h2 : k = m
    · have HF : Hid (ncmp ss ts = 0) := by show _ = _; rw [HE.out, if_pos ⟨h1, h2⟩]
      clear HE KM
      subst h1
      subst h2
      go_wp2
      go_ret
      exact ⟨by rw [HF.out]; rfl, H1⟩
    · have HF : Hid (ncmp ss ts = -1) := by show _ = _; rw [HE.out, if_neg (by omega), if_pos h1]
      have h2' : ((k : Int) == (m : Int)) = false := by simp; omega
      clear HE KM
      subst h1
      go_wp2
      go_ret
      exact ⟨by rw [HF.out]; rfl, H1⟩
  · have h1' : ((k : Int) == (n : Int)) = false := by simp; omega
    by_cases h2 : k = m
    · have HF : Hid (ncmp ss ts = 1) := by show _ = _; rw [HE.out, if_neg (by omega), if_neg h1, if_pos h2]
      clear HE KM
      subst h2
      go_wp2
      go_ret
      exact ⟨by rw [HF.out]; rfl, H1⟩
    · have h2' : ((k : Int) == (m : Int)) = false := by simp; omega
      have g1 : k < ss.length := by rw [HL.out.1]; omega
      have g2 : k < ts.length := by rw [HL.out.2]; omega
      have p1 : ss.length - 1 - k < ss.length := by omega
      have p2 : ts.length - 1 - k < ts.length := by omega
      have r1 : ss.reverse.getD k ⟨#[]⟩ = ss[ss.length - 1 - k] := by
        rw [List.getD_eq_getElem?_getD, List.getElem?_eq_getElem (by simpa using g1)]; simp
      have r2 : ts.reverse.getD k ⟨#[]⟩ = ts[ts.length - 1 - k] := by
        rw [List.getD_eq_getElem?_getD, List.getElem?_eq_getElem (by simpa using g2)]; simp
      obtain ⟨b1, o1, rfl, l1, c1⟩ := (HR.out.1.below H1.out).at (ss.length - 1 - k) p1
      obtain ⟨b2, o2, rfl, l2, c2⟩ := (HR.out.2.1.below H1.out).at (ts.length - 1 - k) p2
      have z1 := HR.out.2.2.1 _ (List.getElem_mem p1)
      have z2 := HR.out.2.2.2 _ (List.getElem_mem p2)
      have HF : Hid (ncmp ss ts = cmp ss[ss.length - 1 - k] ts[ts.length - 1 - k]) := by show _ = _; rw [HE.out, if_neg (by omega), if_neg h1, if_neg h2, r1, r2]
      have KC : Hid (∀ W, Calls Try.prog 58 #[.string ss[ss.length - 1 - k], .string ts[ts.length - 1 - k]] W fun e w' => e = .returned (.int .i64 (cmp ss[ss.length - 1 - k] ts[ts.length - 1 - k])) ∧ Hid (Below W.heap.size W w')) := fun W => rcompare_any _ _ W z1 z2
      clear r1 r2 HE KM
      generalize ss[ss.length - 1 - k] = s at *
      generalize ts[ts.length - 1 - k] = t at *
      rw [HL.out.1] at c1
      rw [HL.out.2] at c2
      obtain ⟨j1, hj1⟩ : ∃ j, n - 1 - k = j := ⟨_, rfl⟩
      obtain ⟨j2, hj2⟩ : ∃ j, m - 1 - k = j := ⟨_, rfl⟩
      rw [hj1] at c1
      rw [hj2] at c2
      have e1 : IntKind.i64.wrap ((n : Int) - 1) = (n : Int) - 1 := by rw [IntKind.wrap_i64]; omega
      have e2 : IntKind.i64.wrap ((n : Int) - 1 - (k : Int)) = (j1 : Int) := by rw [IntKind.wrap_i64]; omega
      have e3 : IntKind.i64.wrap ((m : Int) - 1) = (m : Int) - 1 := by rw [IntKind.wrap_i64]; omega
      have e4 : IntKind.i64.wrap ((m : Int) - 1 - (k : Int)) = (j2 : Int) := by rw [IntKind.wrap_i64]; omega
      have q1 : (j1 : Int) < (n : Int) := by omega
      have q2 : (j2 : Int) < (m : Int) := by omega
      clear p1 p2 z1 z2 g1 g2 hj1 hj2
      go_wp2_with fail
      go_region_held3 (fun W => W.cell? ⟨b1, o1 + j1, none⟩ = some (.string s) ∧ W.cell? ⟨b2, o2 + j2, none⟩ = some (.string t)) (go_keep) (first
        | (go_at_call 58; refine (KC.out _).mono ?_; rintro e wy ⟨rfl, HY⟩; have y1 : wy.cell? ⟨b1, o1 + j1, none⟩ = some (.string s) := (HY.out.cell (p := ⟨b1, o1 + j1, none⟩) l1).trans c1; have y2 : wy.cell? ⟨b2, o2 + j2, none⟩ = some (.string t) := (HY.out.cell (p := ⟨b2, o2 + j2, none⟩) l2).trans c2))
      have HB2 : Hid (Below w.heap.size w wy) := (H1.out.trans ((Below.refl _ _).drew)).trans (HY.out.mono H1.out.size)
      clear y1 y2 c1 c2 HY KC
      go_wp2
      go_ret
      exact ⟨by rw [HF.out]; rfl, HB2.out⟩
end Go.Proofs.Ytkbpjaojgkpffaa
