/- Names out of texts, as the document reads them. -/
import Derived.Test.YtkbpjaojgkpffaaNt
namespace Go.Proofs.Ytkbpjaojgkpffaa
open Go.ChangeShapes Go.WideShapes Go.ChangeAt Go.RowKit
set_option linter.unusedVariables false
set_option linter.unusedSimpArgs false

theorem go_le (l : List Int) (hb : ∀ z ∈ l, 0 ≤ z ∧ z ≤ 255) : ∀ (n p : Nat) (out o : List Int) (q : Nat), l.length - p ≤ n → p ≤ l.length → go l p out = some (o, q) → p ≤ q ∧ q ≤ l.length := by
  intro n
  induction n with
  | zero =>
    intro p out o q hn hp h
    rw [go_stop _ _ _ (by omega)] at h
    cases h
    omega
  | succ n ih =>
    intro p out o q hn hp h
    by_cases hs : p < l.length ∧ l.getD p 0 ≠ 46
    · by_cases hf : (fr (l.drop p)).2 ≤ 0
      · rw [go_bad _ _ _ hs hf] at h; cases h
      · rw [go_step _ _ _ hs hf] at h
        have hfb := fr_bd (l.drop p) (fun z hz => hb z (List.mem_of_mem_drop hz)) (by rw [List.length_drop]; omega)
        rw [List.length_drop] at hfb
        have := ih _ _ _ _ (by omega) (by omega) h
        omega
    · rw [go_stop _ _ _ hs] at h
      cases h
      omega
theorem pres_le (l : List Int) (hb : ∀ z ∈ l, 0 ≤ z ∧ z ≤ 255) (h : (pres l).2.2 = 0) : ∃ p : Nat, (pres l).2.1 = (p : Int) ∧ p ≤ l.length ∧ 1 ≤ (pres l).1.length ∧ (pres l).1.length ≤ 63 := by
  unfold pres at h ⊢
  cases hg : go l 0 [] with
  | none => rw [hg] at h; cases h
  | some r =>
    obtain ⟨o, q⟩ := r
    rw [hg] at h
    simp only at h ⊢
    split at h
    · rename_i h1
      rw [if_pos h1]
      exact ⟨q, rfl, (go_le l hb _ 0 [] o q (Nat.le_refl _) (Nat.zero_le _) hg).2, h1.1, h1.2⟩
    · cases h
theorem pres_err (l : List Int) : (pres l).2.2 = 0 ∨ (pres l).2.2 = 4 ∨ (pres l).2.2 = 120 := by
  unfold pres
  cases go l 0 [] with
  | none => simp
  | some r => simp only; split <;> simp
/-- A label out of bytes. -/
def lb (l : List Int) : ByteArray := ⟨(txt l).toArray⟩
theorem lb_size (l : List Int) : (lb l).size = l.length := txt_size l

/-- The labels of a text, up to its end; whether a . stands behind the last one; the error. -/
def lgo (l : List Int) (out : List ByteArray) : List ByteArray × Bool × Int :=
  if (pres l).2.2 = 0 then
    if (pres l).2.1 = (l.length : Int) then (out ++ [lb (pres l).1], false, 0)
    else if h : (l.drop ((pres l).2.1.toNat + 1)).length = 0 then (out ++ [lb (pres l).1], true, 0)
    else lgo (l.drop ((pres l).2.1.toNat + 1)) (out ++ [lb (pres l).1])
  else ([], false, (pres l).2.2)
termination_by l.length
decreasing_by
  simp only [List.length_drop] at h ⊢
  omega

def LPost (r : List ByteArray × Bool × Int) (w : World) (e : Ending) (w' : World) : Prop :=
  ∃ v ys, e = .returned (.tuple #[v, .bool r.2.1, .int .i64 r.2.2]) ∧ Hid (OwnT w.heap.size w' v r.1.length ys 1000000000000 ∧ ys.take r.1.length = r.1 ∧ Below w.heap.size w w')

set_option maxRecDepth 100000 in
set_option maxHeartbeats 2000000 in
theorem labels_any (s : ByteArray) (w : World) (hs : s.size ≤ 1000000000) : Calls Try.prog 73 #[.string s] w (LPost (lgo (nums s) []) w) := by
  obtain ⟨R, hR⟩ : ∃ R, lgo (nums s) [] = R := ⟨_, rfl⟩
  have HR0 : Hid (lgo (nums s) [] = R) := hR
  rw [hR]
  clear hR
  go_enter Try.func73, Try.ntmps73
  go_wp2_with fail
  go_loopw [0, 5] (fun x v wr => ∃ (t : ByteArray) (out : List ByteArray), x = .string t ∧ t.size ≤ 1000000000 ∧ out.length + t.size ≤ 1000000000 ∧ Hid (lgo (nums t) out = R) ∧ Hid (∃ ys, OwnT w.heap.size wr v out.length ys 1000000000000 ∧ ys.take out.length = out) ∧ Hid (Below w.heap.size w wr)) (fun x _ _ => match x with | .string t => t.size | _ => 0)
  case atStart => exact ⟨s, [], rfl, hs, by simpa using hs, HR0, ⟨[], OwnT.nil _ _ _, rfl⟩, Below.refl _ _⟩
  case round =>
    obtain ⟨t, out, rfl, htz, hout, HK, HW, HB⟩ := hrel
    have KP : Hid (∀ W, Calls Try.prog 91 #[.string t] W fun e w' => e = .returned (.tuple #[.string (lb (pres (nums t)).1), .int .i64 (pres (nums t)).2.1, .int .i64 (pres (nums t)).2.2]) ∧ Hid (Below W.heap.size W w')) := fun W => rparse_any t W (by omega)
    have HU : Hid (lgo (nums t) out = if (pres (nums t)).2.2 = 0 then (if (pres (nums t)).2.1 = (t.size : Int) then (out ++ [lb (pres (nums t)).1], false, 0) else if ((nums t).drop ((pres (nums t)).2.1.toNat + 1)).length = 0 then (out ++ [lb (pres (nums t)).1], true, 0) else lgo ((nums t).drop ((pres (nums t)).2.1.toNat + 1)) (out ++ [lb (pres (nums t)).1])) else ([], false, (pres (nums t)).2.2)) := by
      show _ = _
      rw [lgo, nums_len]
      split <;> rfl
    by_cases h0 : (pres (nums t)).2.2 = 0
    · obtain ⟨p, hp, hpl, hl1, hl2⟩ := pres_le (nums t) (nums_all t) h0
      rw [nums_len] at hpl
      have hlz : (lb (pres (nums t)).1).size ≤ 1000000000000 := by rw [lb_size]; omega
      rw [h0, if_pos rfl, hp, Int.toNat_natCast] at HU
      rw [h0, hp] at KP
      generalize lb (pres (nums t)).1 = f at *
      clear h0 hp hl1 hl2
      by_cases hpt : p = t.size
      · have e : R = (out ++ [f], false, 0) := by rw [← HK.out, HU.out, if_pos (by omega)]
        subst e
        have hq : ((p : Int) == (t.size : Int)) = true := by rw [hpt]; simp
        clear HU HK HR0
        go_wp2_with fail
        refine (KP.out _).mono ?_
        rintro e w1 ⟨rfl, H1⟩
        obtain ⟨ys, hO, hT⟩ := HW.out
        have hnb : Below wr.heap.size wr (w1.alloc (.cells #[.string f] 9)) := H1.out.alloc H1.out.size _
        have HO2 : Hid (OwnT w.heap.size (w1.alloc (.cells #[.string f] 9)) u5 out.length ys 1000000000000 ∧ ys.take out.length = out) := ⟨hO.below hnb, hT⟩
        have HNB : Hid (Below wr.heap.size wr (w1.alloc (.cells #[.string f] 9))) := hnb
        clear hO hT hnb KP
        go_wp2_with (at_builtin; refine wpList_append_T tyN _ rfl _ _ 23 9 Try.underlying23 rfl w.heap.size _ out.length ys 1000000000000 rfl HO2.out.1 (some ⟨w1.heap.size, 0, none⟩) 1 1 [f] rfl (one_rdT w1 f) rfl (by intro s hs; simp at hs; subst hs; exact hlz) (by omega) (Nat.le_trans HB.out.size HNB.out.size) ?_; intro v' w' ys' hO' hT' hG'; have HB2 : Hid (Below w.heap.size w w') := ((HB.out.trans (HNB.out.mono HB.out.size)).grown hG' (Nat.le_trans HB.out.size HNB.out.size) HO2.out.1.1.lt); clear hG')
        go_ret3
        refine ⟨v', ys', rfl, ?_, ?_, HB2.out⟩
        · rw [List.length_append]; exact hO'.out
        · rw [List.length_append]; exact hT'.out.trans (by rw [HO2.out.2])
      · have hq : ((p : Int) == (t.size : Int)) = false := by simp; omega
        have hp1 : p + 1 ≤ t.size := by omega
        rw [if_neg (by omega), List.length_drop, nums_len] at HU
        by_cases hp2 : p + 1 = t.size
        · have e : R = (out ++ [f], true, 0) := by rw [← HK.out, HU.out, if_pos (by omega)]
          subst e
          have hz : (t.extract (p + 1) t.size).size = 0 := by simp; omega
          clear HU HK HR0
          go_wp2_with fail
          refine (KP.out _).mono ?_
          rintro e w1 ⟨rfl, H1⟩
          obtain ⟨ys, hO, hT⟩ := HW.out
          have hnb : Below wr.heap.size wr (w1.alloc (.cells #[.string f] 9)) := H1.out.alloc H1.out.size _
          have HO2 : Hid (OwnT w.heap.size (w1.alloc (.cells #[.string f] 9)) u5 out.length ys 1000000000000 ∧ ys.take out.length = out) := ⟨hO.below hnb, hT⟩
          have HNB : Hid (Below wr.heap.size wr (w1.alloc (.cells #[.string f] 9))) := hnb
          clear hO hT hnb KP
          go_wp2_with (at_builtin; refine wpList_append_T tyN _ rfl _ _ 23 9 Try.underlying23 rfl w.heap.size _ out.length ys 1000000000000 rfl HO2.out.1 (some ⟨w1.heap.size, 0, none⟩) 1 1 [f] rfl (one_rdT w1 f) rfl (by intro s hs; simp at hs; subst hs; exact hlz) (by omega) (Nat.le_trans HB.out.size HNB.out.size) ?_; intro v' w' ys' hO' hT' hG'; have HB2 : Hid (Below w.heap.size w w') := ((HB.out.trans (HNB.out.mono HB.out.size)).grown hG' (Nat.le_trans HB.out.size HNB.out.size) HO2.out.1.1.lt); clear hG')
          go_ret3
          refine ⟨v', ys', rfl, ?_, ?_, HB2.out⟩
          · rw [List.length_append]; exact hO'.out
          · rw [List.length_append]; exact hT'.out.trans (by rw [HO2.out.2])
        · have HK2 : Hid (lgo (nums (t.extract (p + 1) t.size)) (out ++ [f]) = R) := by
            show _ = _
            rw [nums_extract, ← HK.out, HU.out, if_neg (by omega)]
          have hz : (t.extract (p + 1) t.size).size = t.size - (p + 1) := by simp
          have hz0 : (((t.size - (p + 1) : Nat) : Int) == 0) = false := by simp; omega
          clear HU HK HR0
          go_wp2_with fail
          refine (KP.out _).mono ?_
          rintro e w1 ⟨rfl, H1⟩
          obtain ⟨ys, hO, hT⟩ := HW.out
          have hnb : Below wr.heap.size wr (w1.alloc (.cells #[.string f] 9)) := H1.out.alloc H1.out.size _
          have HO2 : Hid (OwnT w.heap.size (w1.alloc (.cells #[.string f] 9)) u5 out.length ys 1000000000000 ∧ ys.take out.length = out) := ⟨hO.below hnb, hT⟩
          have HNB : Hid (Below wr.heap.size wr (w1.alloc (.cells #[.string f] 9))) := hnb
          clear hO hT hnb KP
          go_wp2_with (at_builtin; refine wpList_append_T tyN _ rfl _ _ 23 9 Try.underlying23 rfl w.heap.size _ out.length ys 1000000000000 rfl HO2.out.1 (some ⟨w1.heap.size, 0, none⟩) 1 1 [f] rfl (one_rdT w1 f) rfl (by intro s hs; simp at hs; subst hs; exact hlz) (by omega) (Nat.le_trans HB.out.size HNB.out.size) ?_; intro v' w' ys' hO' hT' hG'; have HB2 : Hid (Below w.heap.size w w') := ((HB.out.trans (HNB.out.mono HB.out.size)).grown hG' (Nat.le_trans HB.out.size HNB.out.size) HO2.out.1.1.lt); clear hG')
          refine ⟨⟨t.extract (p + 1) t.size, out ++ [f], rfl, by omega, by rw [List.length_append, hz]; show out.length + 1 + _ ≤ _; omega, HK2, ⟨ys', ?_, ?_⟩, HB2⟩, by simp only [hz]; omega⟩
          · rw [List.length_append]; exact hO'.out
          · rw [List.length_append]; exact hT'.out.trans (by rw [HO2.out.2])
    · have e : R = ([], false, (pres (nums t)).2.2) := by rw [← HK.out, HU.out, if_neg h0]
      subst e
      generalize (pres (nums t)).2.2 = q at *
      have hq : (q != 0) = true := bne_iff_ne.2 h0
      clear HU HK HR0 h0
      go_wp2_with fail
      refine (KP.out _).mono ?_
      rintro e w1 ⟨rfl, H1⟩
      go_wp2
      go_ret3
      exact ⟨.slice none 0 0, [], rfl, OwnT.nil _ _ _, rfl, HB.out.trans (H1.out.mono HB.out.size)⟩

theorem lgo_bd : ∀ (n : Nat) (l : List Int) (out : List ByteArray), l.length ≤ n → (∀ z ∈ l, 0 ≤ z ∧ z ≤ 255) → (∀ x ∈ out, x.size ≤ 63) → (∀ x ∈ (lgo l out).1, x.size ≤ 63) ∧ (lgo l out).1.length ≤ out.length + l.length + 1 := by
  intro n
  induction n with
  | zero =>
    intro l out hl hb ho
    have e : l = [] := List.eq_nil_of_length_eq_zero (by omega)
    subst e
    rw [lgo, if_neg]
    · simp
    · have : pres [] = ([], 0, 4) := (pres_no (l := []) (out := []) (p := 0) (go_stop _ _ _ (by simp)) (by decide)).1
      rw [this]
      decide
  | succ n ih =>
    intro l out hl hb ho
    rw [lgo]
    by_cases h0 : (pres l).2.2 = 0
    · rw [if_pos h0]
      obtain ⟨p, hp, hpl, hl1, hl2⟩ := pres_le l hb h0
      have ho2 : ∀ x ∈ out ++ [lb (pres l).1], x.size ≤ 63 := by
        intro x hx
        rcases List.mem_append.1 hx with hx | hx
        · exact ho x hx
        · simp at hx; subst hx; rw [lb_size]; exact hl2
      rw [hp, Int.toNat_natCast]
      split
      · exact ⟨ho2, by rw [List.length_append]; show out.length + 1 ≤ _; omega⟩
      · split
        · exact ⟨ho2, by rw [List.length_append]; show out.length + 1 ≤ _; omega⟩
        · rename_i h1 h2
          rw [List.length_drop] at h2
          have := ih (l.drop (p + 1)) (out ++ [lb (pres l).1]) (by rw [List.length_drop]; omega) (fun z hz => hb z (List.mem_of_mem_drop hz)) ho2
          refine ⟨this.1, Nat.le_trans this.2 ?_⟩
          rw [List.length_append, List.length_drop]
          show out.length + 1 + _ + 1 ≤ _
          omega
    · rw [if_neg h0]
      simp
theorem nsz_bd (l : List ByteArray) (h : ∀ x ∈ l, x.size ≤ 63) : nsz l ≤ 64 * l.length + 1 := by
  induction l with
  | nil => simp [nsz]
  | cons x l ih =>
    have := ih (fun y hy => h y (by simp [hy]))
    have := h x (by simp)
    simp only [nsz, List.length_cons]
    omega
theorem lgo_nsz (s : ByteArray) (hs : s.size ≤ 1000000000) : nsz (lgo (nums s) []).1 ≤ 1000000000000 := by
  have := lgo_bd _ (nums s) [] (Nat.le_refl _) (nums_all s) (by simp)
  have h2 := nsz_bd _ this.1
  rw [nums_len] at this
  simp at this
  omega

/-- What Parse answers. -/
def nparse (s : ByteArray) : List ByteArray × Int :=
  if s.toList = [46] then ([], 0)
  else if (lgo (nums s) []).2.2 = 0 then
    (if (lgo (nums s) []).2.1 then (if nck (lgo (nums s) []).1 = 0 then ((lgo (nums s) []).1, 0) else ([], nck (lgo (nums s) []).1)) else ([], 5))
  else ([], (lgo (nums s) []).2.2)

set_option maxRecDepth 100000 in
set_option maxHeartbeats 2000000 in
theorem refnparse_any (s : ByteArray) (w : World) (hs : s.size ≤ 1000000000) : Calls Try.prog 39 #[.string s] w (NPost (nparse s).1 (nparse s).2 w) := by
  by_cases hd : s.toList = [46]
  · have hp : nparse s = ([], 0) := by unfold nparse; rw [if_pos hd]
    rw [hp]
    clear hp
    go_enter Try.func39, Try.ntmps39
    go_wp2
    go_ret2
    exact npost_none rfl (Below.refl _ _)
  · have hdf : (s.toList == [46]) = false := by simpa using hd
    have KL : Hid (Calls Try.prog 73 #[.string s] w (LPost (lgo (nums s) []) w)) := labels_any s w hs
    have HZ : Hid (nsz (lgo (nums s) []).1 ≤ 1000000000000) := lgo_nsz s hs
    have HP : Hid (nparse s = if (lgo (nums s) []).2.2 = 0 then (if (lgo (nums s) []).2.1 then (if nck (lgo (nums s) []).1 = 0 then ((lgo (nums s) []).1, 0) else ([], nck (lgo (nums s) []).1)) else ([], 5)) else ([], (lgo (nums s) []).2.2)) := by
      show _ = _; unfold nparse; rw [if_neg hd]
    clear hd
    obtain ⟨R, hR⟩ : ∃ R, nparse s = R := ⟨_, rfl⟩
    rw [hR] at HP ⊢
    clear hR
    generalize lgo (nums s) [] = r at *
    obtain ⟨l, b, k⟩ := r
    simp only at HP HZ
    by_cases hk : k = 0
    · rw [if_pos hk] at HP
      subst hk
      cases b with
      | false =>
        rw [if_neg (by decide)] at HP
        have e := HP.out
        subst e
        clear HP
        go_enter Try.func39, Try.ntmps39
        go_wp2_with fail
        refine KL.out.mono ?_
        rintro e w1 ⟨v, ys, rfl, H1⟩
        go_wp2
        go_ret2
        exact npost_none rfl H1.out.2.2
      | true =>
        rw [if_pos rfl] at HP
        go_enter Try.func39, Try.ntmps39
        go_wp2_with fail
        refine KL.out.mono ?_
        rintro e w1 ⟨v, ys, rfl, H1⟩
        obtain ⟨ao, hv, hao⟩ := H1.out.1.shape
        subst hv
        have hnm : Nm w1 ao l.length l := ⟨by have := H1.out.1.rd l.length; rw [H1.out.2.1] at this; exact this, rfl, HZ.out⟩
        have KC : Hid (Calls Try.prog 12 #[.slice ao l.length ys.length] w1 fun e w' => e = .returned (.int .i64 (nck l)) ∧ w' = w1) := nm_check ys.length hnm
        clear hnm
        by_cases hc : nck l = 0
        · rw [if_pos hc] at HP
          rw [hc] at KC
          have e := HP.out
          subst e
          clear HP hc
          go_wp2_with fail
          refine KC.out.mono ?_
          rintro e w2 ⟨rfl, rfl⟩
          go_wp2
          go_ret2
          exact ⟨_, ys, rfl, H1⟩
        · rw [if_neg hc] at HP
          have e := HP.out
          subst e
          clear HP
          generalize nck l = q at *
          have hq : (q != 0) = true := bne_iff_ne.2 hc
          clear hc
          go_wp2_with fail
          refine KC.out.mono ?_
          rintro e w2 ⟨rfl, rfl⟩
          go_wp2
          go_ret2
          exact npost_none rfl H1.out.2.2
    · rw [if_neg hk] at HP
      have e := HP.out
      subst e
      have hq : (k != 0) = true := bne_iff_ne.2 hk
      clear HP hk
      go_enter Try.func39, Try.ntmps39
      go_wp2_with fail
      refine KL.out.mono ?_
      rintro e w1 ⟨v, ys, rfl, H1⟩
      go_wp2
      go_ret2
      exact npost_none rfl H1.out.2.2

/-- What Relative answers. -/
def nrel (s : ByteArray) (og : List ByteArray) : List ByteArray × Int :=
  if nck og = 0 then
    (if s.toList = [64] then (og, 0) else if s.toList = [46] then ([], 0)
    else if (lgo (nums s) []).2.2 = 0 then (if (lgo (nums s) []).2.1 then nparse s else njoin (lgo (nums s) []).1 og) else ([], (lgo (nums s) []).2.2))
  else ([], nck og)

set_option maxRecDepth 100000 in
set_option maxHeartbeats 2000000 in
theorem refnrel_any (s : ByteArray) (a : Option Addr) (n c : Nat) (og : List ByteArray) (w : World) (hs : s.size ≤ 1000000000) (h : Nm w a n og) : Calls Try.prog 41 #[.string s, .slice a n c] w (NPost (nrel s og).1 (nrel s og).2 w) := by
  have KC : Hid (Calls Try.prog 12 #[.slice a n c] w fun e w' => e = .returned (.int .i64 (nck og)) ∧ w' = w) := nm_check c h
  have HN : Hid (Nm w a n og) := h
  by_cases hk : nck og = 0
  · rw [hk] at KC
    by_cases h1 : s.toList = [64]
    · have hp : nrel s og = (og, 0) := by unfold nrel; rw [if_pos hk, if_pos h1]
      rw [hp]
      have h1t : (s.toList == [64]) = true := by simpa using h1
      clear hp h hk h1
      go_enter Try.func41, Try.ntmps41
      go_wp2_with fail
      refine KC.out.mono ?_
      rintro e w1 ⟨rfl, rfl⟩
      go_wp2_with fail
      refine (nm_copy c HN.out).mono ?_
      rintro e w2 ⟨v, ys, rfl, H2⟩
      go_wp2
      go_ret2
      exact ⟨v, ys, rfl, H2⟩
    have h1f : (s.toList == [64]) = false := by simpa using h1
    by_cases h2 : s.toList = [46]
    · have hp : nrel s og = ([], 0) := by unfold nrel; rw [if_pos hk, if_neg h1, if_pos h2]
      rw [hp]
      have h2t : (s.toList == [46]) = true := by simpa using h2
      clear hp h hk h1 h2
      go_enter Try.func41, Try.ntmps41
      go_wp2_with fail
      refine KC.out.mono ?_
      rintro e w1 ⟨rfl, rfl⟩
      go_wp2
      go_ret2
      exact npost_none rfl (Below.refl _ _)
    have h2f : (s.toList == [46]) = false := by simpa using h2
    have KL : Hid (Calls Try.prog 73 #[.string s] w (LPost (lgo (nums s) []) w)) := labels_any s w hs
    have KP : Hid (∀ W, Calls Try.prog 39 #[.string s] W (NPost (nparse s).1 (nparse s).2 W)) := fun W => refnparse_any s W hs
    have HZ : Hid (nsz (lgo (nums s) []).1 ≤ 1000000000000) := lgo_nsz s hs
    have HP : Hid (nrel s og = if (lgo (nums s) []).2.2 = 0 then (if (lgo (nums s) []).2.1 then nparse s else njoin (lgo (nums s) []).1 og) else ([], (lgo (nums s) []).2.2)) := by
      show _ = _; unfold nrel; rw [if_pos hk, if_neg h1, if_neg h2]
    obtain ⟨R, hR⟩ : ∃ R, nrel s og = R := ⟨_, rfl⟩
    rw [hR] at HP ⊢
    clear hR h hk h1 h2
    generalize lgo (nums s) [] = r at *
    generalize nparse s = pr at *
    obtain ⟨l, b, k⟩ := r
    simp only at HP HZ
    by_cases hk : k = 0
    · rw [if_pos hk] at HP
      subst hk
      cases b with
      | true =>
        rw [if_pos rfl] at HP
        have e := HP.out
        subst e
        clear HP
        go_enter Try.func41, Try.ntmps41
        go_wp2_with fail
        refine KC.out.mono ?_
        rintro e w1 ⟨rfl, rfl⟩
        go_wp2_with fail
        refine KL.out.mono ?_
        rintro e w2 ⟨v, ys, rfl, H2⟩
        go_wp2_with fail
        refine (KP.out _).mono ?_
        rintro e w3 ⟨v3, ys3, rfl, H3⟩
        go_wp2
        go_ret2
        exact ⟨v3, ys3, rfl, H3.out.1.mono H2.out.2.2.size, H3.out.2.1, H2.out.2.2.trans (H3.out.2.2.mono H2.out.2.2.size)⟩
      | false =>
        rw [if_neg (by decide)] at HP
        go_enter Try.func41, Try.ntmps41
        go_wp2_with fail
        refine KC.out.mono ?_
        rintro e w1 ⟨rfl, rfl⟩
        go_wp2_with fail
        refine KL.out.mono ?_
        rintro e w2 ⟨v, ys, rfl, H2⟩
        obtain ⟨ao, hv, hao⟩ := H2.out.1.shape
        subst hv
        have hnm : Nm w2 ao l.length l := ⟨by have := H2.out.1.rd l.length; rw [H2.out.2.1] at this; exact this, rfl, HZ.out⟩
        have KJ : Hid (Calls Try.prog 28 #[.slice ao l.length ys.length, .slice a n c] w2 (NPost (njoin l og).1 (njoin l og).2 w2)) := refjoin_any ao a l.length n ys.length c l og w2 hnm (HN.out.below H2.out.2.2)
        clear hnm
        have e := HP.out
        subst e
        clear HP KP
        generalize njoin l og = jj at *
        go_wp2_with fail
        refine KJ.out.mono ?_
        rintro e w3 ⟨v3, ys3, rfl, H3⟩
        go_wp2
        go_ret2
        exact ⟨v3, ys3, rfl, H3.out.1.mono H2.out.2.2.size, H3.out.2.1, H2.out.2.2.trans (H3.out.2.2.mono H2.out.2.2.size)⟩
    · rw [if_neg hk] at HP
      have e := HP.out
      subst e
      have hq : (k != 0) = true := bne_iff_ne.2 hk
      clear HP hk
      go_enter Try.func41, Try.ntmps41
      go_wp2_with fail
      refine KC.out.mono ?_
      rintro e w1 ⟨rfl, rfl⟩
      go_wp2_with fail
      refine KL.out.mono ?_
      rintro e w2 ⟨v, ys, rfl, H2⟩
      go_wp2
      go_ret2
      exact npost_none rfl H2.out.2.2
  · have hp : nrel s og = ([], nck og) := by unfold nrel; rw [if_neg hk]
    rw [hp]
    generalize nck og = q at *
    have hq : (q != 0) = true := bne_iff_ne.2 hk
    clear h hk hp
    go_enter Try.func41, Try.ntmps41
    go_wp2_with fail
    refine KC.out.mono ?_
    rintro e w1 ⟨rfl, rfl⟩
    go_wp2
    go_ret2
    exact npost_none rfl (Below.refl _ _)
end Go.Proofs.Ytkbpjaojgkpffaa
