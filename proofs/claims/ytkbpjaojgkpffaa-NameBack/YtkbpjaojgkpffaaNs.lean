/- Names, as the document has them: the same, under, folded, cut, joined. -/
import Derived.Test.YtkbpjaojgkpffaaNr
namespace Go.Proofs.Ytkbpjaojgkpffaa
open Go.ChangeShapes Go.WideShapes Go.ChangeAt Go.RowKit
set_option linter.unusedVariables false
set_option linter.unusedSimpArgs false

/-- What is asked of a name that is read: it lies there, and is not too great. -/
structure Nm (w : World) (a : Option Addr) (n : Nat) (ss : List ByteArray) : Prop where
  rd : RdT w a ss
  len : ss.length = n
  sz : nsz ss ≤ 1000000000000
theorem nsz_len : ∀ l : List ByteArray, l.length + 1 ≤ nsz l
  | [] => by simp [nsz]
  | x :: l => by have := nsz_len l; simp only [List.length_cons, nsz]; omega
theorem nsz_mem : ∀ (l : List ByteArray) (s : ByteArray), s ∈ l → s.size ≤ nsz l
  | x :: l, s, h => by
    simp only [nsz]
    rcases List.mem_cons.1 h with rfl | h
    · omega
    · have := nsz_mem l s h; omega
theorem Nm.below {w w' : World} {a : Option Addr} {n : Nat} {ss : List ByteArray} (h : Nm w a n ss) (hb : Below w.heap.size w w') : Nm w' a n ss := ⟨h.rd.below hb, h.len, h.sz⟩
theorem Nm.n63 {w : World} {a : Option Addr} {n : Nat} {ss : List ByteArray} (h : Nm w a n ss) : n ≤ 1000000000000 := by have := nsz_len ss; have := h.len; have := h.sz; omega
theorem Nm.mem {w : World} {a : Option Addr} {n : Nat} {ss : List ByteArray} (h : Nm w a n ss) (s : ByteArray) (hs : s ∈ ss) : s.size ≤ 1000000000000 := Nat.le_trans (nsz_mem ss s hs) h.sz
theorem nm_common {a b : Option Addr} {n m : Nat} {ss ts : List ByteArray} {w : World} (c d : Nat) (h : Nm w a n ss) (h' : Nm w b m ts) : Calls Try.prog 22 #[.slice a n c, .slice b m d] w fun e w' => e = .returned (.int .i64 (ncom ss ts)) ∧ Hid (Below w.heap.size w w') :=
  refcommon_any a b n m c d ss ts w h.rd h'.rd h.len h'.len h.n63 h'.n63 (fun s hs => by have := h.mem s hs; omega) (fun s hs => by have := h'.mem s hs; omega)
theorem nm_check {a : Option Addr} {n : Nat} {ss : List ByteArray} {w : World} (c : Nat) (h : Nm w a n ss) : Calls Try.prog 12 #[.slice a n c] w fun e w' => e = .returned (.int .i64 (nck ss)) ∧ w' = w :=
  refcheck_any a n c ss w h.rd h.len (by have := h.sz; omega) (by have := h.n63; omega) (fun s hs => by have := h.mem s hs; omega)
theorem nm_copy {a : Option Addr} {n : Nat} {ss : List ByteArray} {w : World} (c : Nat) (h : Nm w a n ss) : Calls Try.prog 61 #[.slice a n c] w (CopyPost ss 1000000000000 w) :=
  refcopy_any a c n ss 1000000000000 w h.rd h.len h.mem (by have := h.n63; omega)

theorem beq_nat (k n : Nat) : ((k : Int) == (n : Int)) = (k == n) := by
  by_cases h : k = n
  · subst h; simp
  · have h2 : ¬ (k : Int) = (n : Int) := by omega
    rw [beq_false_of_ne h, beq_false_of_ne h2]
def nsame (ss ts : List ByteArray) : Bool := ss.length == ts.length && ncom ss ts == ss.length
def nunder (ss ts : List ByteArray) : Bool := ncom ss ts == ts.length
set_option maxRecDepth 100000 in
set_option maxHeartbeats 1000000 in
theorem refsame_any (a b : Option Addr) (n m c d : Nat) (ss ts : List ByteArray) (w : World) (h : Nm w a n ss) (h' : Nm w b m ts) :
    Calls Try.prog 16 #[.slice a n c, .slice b m d] w fun e w' => e = .returned (.bool (nsame ss ts)) ∧ Hid (Below w.heap.size w w') := by
  have KM : Hid (Calls Try.prog 22 #[.slice a n c, .slice b m d] w fun e w' => e = .returned (.int .i64 (ncom ss ts)) ∧ Hid (Below w.heap.size w w')) := nm_common c d h h'
  have hn := h.n63
  have hm := h'.n63
  have HE : Hid (nsame ss ts = (n == m && ncom ss ts == n)) := by show _ = _; unfold nsame; rw [h.len, h'.len]
  clear h h'
  generalize ncom ss ts = k at *
  by_cases hq : n = m
  · subst hq
    go_enter Try.func16, Try.ntmps16
    go_wp2_with fail
    refine KM.out.mono ?_
    rintro e w1 ⟨rfl, H1⟩
    go_wp2
    go_ret
    refine ⟨?_, H1⟩
    rw [HE.out]
    exact ret_bool (by rw [beq_nat]; simp)
  · have hq' : ((n : Int) == (m : Int)) = false := by simp; omega
    have HF : Hid (nsame ss ts = false) := by show _ = _; rw [HE.out]; simp [hq]
    go_enter Try.func16, Try.ntmps16
    go_wp2
    go_ret
    exact ⟨by rw [HF.out]; rfl, Below.refl _ _⟩
set_option maxRecDepth 100000 in
set_option maxHeartbeats 1000000 in
theorem refunder_any (a b : Option Addr) (n m c d : Nat) (ss ts : List ByteArray) (w : World) (h : Nm w a n ss) (h' : Nm w b m ts) :
    Calls Try.prog 20 #[.slice a n c, .slice b m d] w fun e w' => e = .returned (.bool (nunder ss ts)) ∧ Hid (Below w.heap.size w w') := by
  have KM : Hid (Calls Try.prog 22 #[.slice a n c, .slice b m d] w fun e w' => e = .returned (.int .i64 (ncom ss ts)) ∧ Hid (Below w.heap.size w w')) := nm_common c d h h'
  have hn := h.n63
  have hm := h'.n63
  have HE : Hid (nunder ss ts = (ncom ss ts == m)) := by show _ = _; unfold nunder; rw [h'.len]
  clear h h'
  generalize ncom ss ts = k at *
  go_enter Try.func20, Try.ntmps20
  go_wp2_with fail
  refine KM.out.mono ?_
  rintro e w1 ⟨rfl, H1⟩
  go_wp2
  go_ret
  refine ⟨?_, H1⟩
  rw [HE.out]
  exact ret_bool (beq_nat _ _)

/-- What a call that makes a name answers: the labels, the error. -/
def NPost (r : List ByteArray) (k : Int) (w : World) (e : Ending) (w' : World) : Prop :=
  ∃ v ys, e = .returned (.tuple #[v, .int .i64 k]) ∧ Hid (OwnT w.heap.size w' v r.length ys 1000000000000 ∧ ys.take r.length = r ∧ Below w.heap.size w w')
theorem npost_none {k : Int} {w w' : World} {e : Ending} (he : e = .returned (.tuple #[.slice none 0 0, .int .i64 k])) (hb : Below w.heap.size w w') : NPost [] k w e w' :=
  ⟨.slice none 0 0, [], he, OwnT.nil _ _ _, rfl, hb⟩

def nparent (ss : List ByteArray) : List ByteArray × Int := if nck ss = 0 then (if ss.length = 0 then ([], 9) else (ss.drop 1, 0)) else ([], nck ss)
def nabove (ss : List ByteArray) (d : Int) : List ByteArray × Int := if nck ss = 0 then (if d < 0 ∨ (ss.length : Int) < d then ([], 2) else (ss.drop (ss.length - d.toNat), 0)) else ([], nck ss)
theorem nsz_drop (l : List ByteArray) (k : Nat) : nsz (l.drop k) ≤ nsz l := by
  induction l generalizing k with
  | nil => simp [nsz]
  | cons x l ih =>
    cases k with
    | zero => simp
    | succ k => simp only [List.drop_succ_cons, nsz]; have := ih k; omega
theorem Nm.cut {w : World} {a a' : Option Addr} {n : Nat} {ss : List ByteArray} (h : Nm w a n ss) (p : Nat) (ha : p < ss.length → ∀ b o, a = some ⟨b, o, none⟩ → a' = some ⟨b, o + p, none⟩) : Nm w a' (n - p) (ss.drop p) := by
  refine ⟨?_, by rw [List.length_drop, h.len], Nat.le_trans (nsz_drop ss p) h.sz⟩
  have := RdV.cut (w := w) (a := a) (xs := tv ss) h.rd p (tv ss).length (a' := a') (fun hp => ha (by rw [tv_len] at hp; exact hp))
  rw [List.take_of_length_le (by simp), tv_drop] at this
  exact this

set_option maxRecDepth 100000 in
set_option maxHeartbeats 1000000 in
theorem refparent_any (a : Option Addr) (n c : Nat) (ss : List ByteArray) (w : World) (h : Nm w a n ss) (hc : n ≤ c ∧ c ≤ 9223372036854775807) :
    Calls Try.prog 24 #[.slice a n c] w (NPost (nparent ss).1 (nparent ss).2 w) := by
  have KC : Hid (Calls Try.prog 12 #[.slice a n c] w fun e w' => e = .returned (.int .i64 (nck ss)) ∧ w' = w) := nm_check c h
  have hn := h.n63
  have HN : Hid (Nm w a n ss) := h
  by_cases hk : nck ss = 0
  · rw [hk] at KC
    by_cases h0 : n = 0
    · have hp : nparent ss = ([], 9) := by unfold nparent; rw [if_pos hk, if_pos (by rw [h.len]; exact h0)]
      rw [hp]
      subst h0
      clear h hk hp
      go_enter Try.func24, Try.ntmps24
      go_wp2_with fail
      refine KC.out.mono ?_
      rintro e w1 ⟨rfl, rfl⟩
      go_wp2
      go_ret2
      exact npost_none rfl (Below.refl _ _)
    · have hp : nparent ss = (ss.drop 1, 0) := by unfold nparent; rw [if_pos hk, if_neg (by rw [h.len]; exact h0)]
      rw [hp]
      obtain ⟨b, o, ha, hb0, hc0⟩ := h.rd.at 0 (by rw [h.len]; omega)
      have h0' : ((n : Int) == 0) = false := by simp; omega
      have h1 : (1 : Int) ≤ (n : Int) := by omega
      subst ha
      clear hb0 hc0 h hk hp
      go_enter Try.func24, Try.ntmps24
      go_wp2_with fail
      refine KC.out.mono ?_
      rintro e w1 ⟨rfl, rfl⟩
      go_wp2_with fail
      all_goals
        refine (nm_copy _ (HN.out.cut 1 ?_)).mono ?_
        · first
            | (intro _ b' o' e; cases e; rfl)
            | (intro hlt; have := HN.out.len; omega)
        rintro e w2 ⟨v, ys, rfl, H2⟩
        go_wp2
        go_ret2
        exact ⟨v, ys, rfl, by simpa using H2⟩
  · have hp : nparent ss = ([], nck ss) := by unfold nparent; rw [if_neg hk]
    rw [hp]
    generalize nck ss = q at *
    have hq : (q != 0) = true := bne_iff_ne.2 hk
    clear h hk hp
    go_enter Try.func24, Try.ntmps24
    go_wp2_with fail
    refine KC.out.mono ?_
    rintro e w1 ⟨rfl, rfl⟩
    go_wp2
    go_ret2
    exact npost_none rfl (Below.refl _ _)

set_option maxRecDepth 100000 in
set_option maxHeartbeats 1000000 in
theorem above_cut (b o n c k p : Nat) (ss : List ByteArray) (w : World) (KC : Hid (Calls Try.prog 12 #[.slice (some ⟨b, o, none⟩) n c] w fun e w' => e = .returned (.int .i64 0) ∧ w' = w)) (KP : Hid (Calls Try.prog 61 #[.slice (some ⟨b, o + p, none⟩) (n - p) (c - p)] w (CopyPost (ss.drop p) 1000000000000 w)))
    (hn : n ≤ 1000000000000) (hc : n ≤ c ∧ c ≤ 9223372036854775807) (hkn : k ≤ n) (hp : n - k = p) (hcp : ¬ c = p) :
    Calls Try.prog 26 #[.slice (some ⟨b, o, none⟩) n c, .int .i64 k] w (NPost (ss.drop p) 0 w) := by
  have hd1 : ¬ (k : Int) < 0 := by omega
  have hd2 : ¬ (n : Int) < (k : Int) := by omega
  have e1 : (n : Int) - (k : Int) = (p : Int) := by omega
  have hpn : (p : Int) ≤ (n : Int) := by omega
  have hpc : (p : Int) ≤ (c : Int) := by omega
  go_enter Try.func26, Try.ntmps26
  go_wp2_with fail
  refine KC.out.mono ?_
  rintro e w1 ⟨rfl, rfl⟩
  go_wp2_with fail
  refine KP.out.mono ?_
  rintro e w2 ⟨v, ys, rfl, H2⟩
  go_wp2
  go_ret2
  exact ⟨v, ys, rfl, H2⟩
set_option maxRecDepth 100000 in
set_option maxHeartbeats 1000000 in
theorem above_end (x : Addr) (n k : Nat) (ss : List ByteArray) (w : World) (KC : Hid (Calls Try.prog 12 #[.slice (some x) n n] w fun e w' => e = .returned (.int .i64 0) ∧ w' = w)) (KP : Hid (Calls Try.prog 61 #[.slice (some x) 0 0] w (CopyPost [] 1000000000000 w)))
    (hn : n ≤ 1000000000000) (hk : k = 0) :
    Calls Try.prog 26 #[.slice (some x) n n, .int .i64 k] w (NPost [] 0 w) := by
  subst hk
  have hd1 : ¬ (0 : Int) < 0 := by omega
  have hd2 : ¬ (n : Int) < 0 := by omega
  go_enter Try.func26, Try.ntmps26
  go_wp2_with fail
  refine KC.out.mono ?_
  rintro e w1 ⟨rfl, rfl⟩
  go_wp2_with fail
  refine KP.out.mono ?_
  rintro e w2 ⟨v, ys, rfl, H2⟩
  go_wp2
  go_ret2
  exact ⟨v, ys, rfl, H2⟩
set_option maxRecDepth 100000 in
set_option maxHeartbeats 1000000 in
theorem above_zero (x : Option Addr) (c : Nat) (w : World) (KC : Hid (Calls Try.prog 12 #[.slice x 0 c] w fun e w' => e = .returned (.int .i64 0) ∧ w' = w)) (KP : Hid (∀ y, Calls Try.prog 61 #[.slice y 0 c] w (CopyPost [] 1000000000000 w)))
    (hc : c ≤ 9223372036854775807) : Calls Try.prog 26 #[.slice x 0 c, .int .i64 0] w (NPost [] 0 w) := by
  cases x with
  | none =>
    go_enter Try.func26, Try.ntmps26
    go_wp2_with fail
    refine KC.out.mono ?_
    rintro e w1 ⟨rfl, rfl⟩
    go_wp2_with fail
    all_goals
      refine (KP.out _).mono ?_
      rintro e w2 ⟨v, ys, rfl, H2⟩
      go_wp2
      go_ret2
      exact ⟨v, ys, rfl, H2⟩
  | some x =>
    go_enter Try.func26, Try.ntmps26
    go_wp2_with fail
    refine KC.out.mono ?_
    rintro e w1 ⟨rfl, rfl⟩
    go_wp2_with fail
    all_goals
      refine (KP.out _).mono ?_
      rintro e w2 ⟨v, ys, rfl, H2⟩
      go_wp2
      go_ret2
      exact ⟨v, ys, rfl, H2⟩
theorem nm_nil (w : World) (a : Option Addr) : Nm w a 0 [] := ⟨.inl rfl, rfl, by decide⟩

set_option maxRecDepth 100000 in
set_option maxHeartbeats 1000000 in
theorem refabove_any (a : Option Addr) (n c : Nat) (d : Int) (ss : List ByteArray) (w : World) (h : Nm w a n ss) (hc : n ≤ c ∧ c ≤ 9223372036854775807) :
    Calls Try.prog 26 #[.slice a n c, .int .i64 d] w (NPost (nabove ss d).1 (nabove ss d).2 w) := by
  have KC : Hid (Calls Try.prog 12 #[.slice a n c] w fun e w' => e = .returned (.int .i64 (nck ss)) ∧ w' = w) := nm_check c h
  have hn := h.n63
  by_cases hk : nck ss = 0
  · rw [hk] at KC
    by_cases hd : d < 0 ∨ (n : Int) < d
    · have hp : nabove ss d = ([], 2) := by unfold nabove; rw [if_pos hk, if_pos (by rw [h.len]; exact hd)]
      rw [hp]
      have hd' : d < 0 ∨ (¬ d < 0 ∧ (n : Int) < d) := by omega
      clear h hk hp hd
      rcases hd' with hd | ⟨hd, hd2⟩
      all_goals
        go_enter Try.func26, Try.ntmps26
        go_wp2_with fail
        refine KC.out.mono ?_
        rintro e w1 ⟨rfl, rfl⟩
        go_wp2
        go_ret2
        exact npost_none rfl (Below.refl _ _)
    · obtain ⟨k, rfl⟩ : ∃ k : Nat, d = (k : Int) := ⟨d.toNat, by omega⟩
      have hkn : k ≤ n := by omega
      have hp : nabove ss (k : Int) = (ss.drop (n - k), 0) := by unfold nabove; rw [if_pos hk, if_neg (by rw [h.len]; exact hd), h.len, Int.toNat_natCast]
      rw [hp]
      by_cases h0 : n = 0
      · have hs : ss = [] := List.eq_nil_of_length_eq_zero (by rw [h.len]; exact h0)
        have hk0 : k = 0 := by omega
        subst hs; subst h0; subst hk0
        exact above_zero a c w KC (fun y => nm_copy c (nm_nil w y)) hc.2
      · obtain ⟨b, o, rfl, _, _⟩ := h.rd.at 0 (by rw [h.len]; omega)
        by_cases hcp : c = n - k
        · have hk0 : k = 0 := by omega
          have hcn : c = n := by omega
          have e : ss.drop (n - k) = [] := List.drop_eq_nil_of_le (by rw [h.len]; omega)
          rw [e]
          subst hcn
          exact above_end _ c k ss w KC (nm_copy 0 (nm_nil w _)) hn hk0
        · exact above_cut b o n c k (n - k) ss w KC (nm_copy _ (h.cut (n - k) (fun _ b' o' e => by cases e; rfl))) hn hc hkn rfl hcp
  · have hp : nabove ss d = ([], nck ss) := by unfold nabove; rw [if_neg hk]
    rw [hp]
    generalize nck ss = q at *
    have hq : (q != 0) = true := bne_iff_ne.2 hk
    clear h hk hp
    go_enter Try.func26, Try.ntmps26
    go_wp2_with fail
    refine KC.out.mono ?_
    rintro e w1 ⟨rfl, rfl⟩
    go_wp2
    go_ret2
    exact npost_none rfl (Below.refl _ _)

theorem nck_small {ss : List ByteArray} (h : nck ss = 0) : nsz ss ≤ 255 ∧ labsOk ss := by
  unfold nck at h
  split at h
  · rename_i h1
    split at h
    · cases h
    · exact ⟨by omega, h1⟩
  · cases h
theorem nsz_append (a b : List ByteArray) : nsz (a ++ b) + 1 = nsz a + nsz b := by
  induction a with
  | nil => simp [nsz]; omega
  | cons x a ih => simp only [List.cons_append, nsz]; omega
def njoin (a b : List ByteArray) : List ByteArray × Int := if nck a = 0 then (if nck b = 0 then (if nck (a ++ b) = 0 then (a ++ b, 0) else ([], 5)) else ([], nck b)) else ([], nck a)

set_option maxRecDepth 100000 in
set_option maxHeartbeats 2000000 in
theorem refjoin_any (a b : Option Addr) (n m c d : Nat) (ss ts : List ByteArray) (w : World) (h : Nm w a n ss) (h' : Nm w b m ts) :
    Calls Try.prog 28 #[.slice a n c, .slice b m d] w (NPost (njoin ss ts).1 (njoin ss ts).2 w) := by
  have K1 : Hid (Calls Try.prog 12 #[.slice a n c] w fun e w' => e = .returned (.int .i64 (nck ss)) ∧ w' = w) := nm_check c h
  have K2 : Hid (Calls Try.prog 12 #[.slice b m d] w fun e w' => e = .returned (.int .i64 (nck ts)) ∧ w' = w) := nm_check d h'
  have HN : Hid (Nm w a n ss ∧ Nm w b m ts) := ⟨h, h'⟩
  by_cases hk : nck ss = 0
  · rw [hk] at K1
    by_cases hk2 : nck ts = 0
    · rw [hk2] at K2
      have z1 := nck_small hk
      have z2 := nck_small hk2
      have hj : njoin ss ts = if nck (ss ++ ts) = 0 then (ss ++ ts, 0) else ([], 5) := by unfold njoin; rw [if_pos hk, if_pos hk2]
      rw [hj]
      have HK : Hid (nck (ss ++ ts) = nck (ss ++ ts)) := rfl
      have HJ : Hid (nsz (ss ++ ts) ≤ 1000000000000) := by show _ ≤ _; have := nsz_append ss ts; omega
      have hn := h.n63
      have hm := h'.n63
      have HS : Hid (ss.length = n ∧ ts.length = m) := ⟨h.len, h'.len⟩
      clear h h' hk hk2 z1 z2 hj HK
      have HQ : Hid (∀ P : List ByteArray × Int → Prop, (nck (ss ++ ts) = 0 → P (ss ++ ts, 0)) → (¬ nck (ss ++ ts) = 0 → P ([], 5)) → P (if nck (ss ++ ts) = 0 then (ss ++ ts, 0) else ([], 5))) := by
        intro P h1 h2
        by_cases h : nck (ss ++ ts) = 0
        · rw [if_pos h]; exact h1 h
        · rw [if_neg h]; exact h2 h
      generalize hRR : (if nck (ss ++ ts) = 0 then (ss ++ ts, (0 : Int)) else ([], 5)) = RR at *
      have HRR : Hid ((if nck (ss ++ ts) = 0 then (ss ++ ts, (0 : Int)) else ([], 5)) = RR) := hRR
      clear hRR HQ
      go_enter Try.func28, Try.ntmps28
      go_wp2_with fail
      refine K1.out.mono ?_
      rintro e w1 ⟨rfl, rfl⟩
      go_wp2_with fail
      refine K2.out.mono ?_
      rintro e w1 ⟨rfl, rfl⟩
      go_wp2_with fail
      refine (nm_copy _ HN.out.1).mono ?_
      rintro e w2 ⟨v, ys, rfl, H2⟩
      have HO : Hid (OwnT w1.heap.size w2 v n ys 1000000000000 ∧ ys.take n = ss ∧ Below w1.heap.size w1 w2) := by have := H2.out; rw [HS.out.1] at this; exact this
      have HR : Hid (RdT w2 b ts ∧ ∀ s ∈ ts, s.size ≤ 1000000000000) := ⟨HN.out.2.rd.below HO.out.2.2, HN.out.2.mem⟩
      clear H2 K1 K2
      go_wp2_with (at_builtin; refine wpList_append_T tyN _ rfl _ _ 23 9 Try.underlying23 rfl w1.heap.size _ n ys 1000000000000 rfl HO.out.1 b m d ts rfl HR.out.1 HS.out.2 HR.out.2 (by omega) HO.out.2.2.size ?_; intro v' w' zs hO hT hG; have HG : Hid (w2.grownBy w' v.ownBlock) := hG; clear hG; obtain ⟨ao, hv, hao⟩ := hO.out.shape; subst hv)
      have hnm : Nm w' ao (n + m) (ss ++ ts) := by
        refine ⟨?_, by rw [List.length_append, HS.out.1, HS.out.2], HJ.out⟩
        have := hO.out.rd (n + m)
        rw [hT.out, HO.out.2.1] at this
        exact this
      have K3 : Hid (Calls Try.prog 12 #[.slice ao (n + m) zs.length] w' fun e w' => e = .returned (.int .i64 (nck (ss ++ ts))) ∧ w' = w') := (nm_check zs.length hnm).mono fun e w'' h => ⟨h.1, rfl⟩
      have K4 : Hid (Calls Try.prog 12 #[.slice ao (n + m) zs.length] w' fun e w'' => e = .returned (.int .i64 (nck (ss ++ ts))) ∧ w'' = w') := nm_check zs.length hnm
      have HB : Hid (Below w1.heap.size w1 w') := HO.out.2.2.grown HG.out HO.out.2.2.size HO.out.1.1.lt
      have HFin : Hid (OwnT w1.heap.size w' (.slice ao (n + m) zs.length) (ss ++ ts).length zs 1000000000000 ∧ zs.take (ss ++ ts).length = ss ++ ts) := by
        have e : (ss ++ ts).length = n + m := by rw [List.length_append, HS.out.1, HS.out.2]
        rw [e]
        exact ⟨hO.out, by rw [hT.out, HO.out.2.1]⟩
      clear hnm K3
      generalize hkk : nck (ss ++ ts) = kk at *
      by_cases h0 : kk = 0
      · have e : RR = (ss ++ ts, 0) := by rw [← HRR.out, if_pos h0]
        subst e
        subst h0
        clear HRR hkk
        refine K4.out.mono ?_
        rintro e w3 ⟨rfl, rfl⟩
        go_wp2
        go_ret2
        exact ⟨_, zs, rfl, HFin.out.1, HFin.out.2, HB.out⟩
      · have e : RR = ([], 5) := by rw [← HRR.out, if_neg h0]
        subst e
        have hq : (kk != 0) = true := bne_iff_ne.2 h0
        clear HRR hkk h0
        refine K4.out.mono ?_
        rintro e w3 ⟨rfl, rfl⟩
        go_wp2
        go_ret2
        exact npost_none rfl HB.out
    · have hj : njoin ss ts = ([], nck ts) := by unfold njoin; rw [if_pos hk, if_neg hk2]
      rw [hj]
      generalize nck ts = q at *
      have hq : (q != 0) = true := bne_iff_ne.2 hk2
      clear h h' hk hj hk2
      go_enter Try.func28, Try.ntmps28
      go_wp2_with fail
      refine K1.out.mono ?_
      rintro e w1 ⟨rfl, rfl⟩
      go_wp2_with fail
      refine K2.out.mono ?_
      rintro e w1 ⟨rfl, rfl⟩
      go_wp2
      go_ret2
      exact npost_none rfl (Below.refl _ _)
  · have hj : njoin ss ts = ([], nck ss) := by unfold njoin; rw [if_neg hk]
    rw [hj]
    generalize nck ss = q at *
    have hq : (q != 0) = true := bne_iff_ne.2 hk
    have hq2 : (q == 0) = false := by simp [hk]
    clear h h' hk hj K2
    go_enter Try.func28, Try.ntmps28
    go_wp2_with fail
    refine K1.out.mono ?_
    rintro e w1 ⟨rfl, rfl⟩
    go_wp2
    go_ret2
    exact npost_none rfl (Below.refl _ _)
end Go.Proofs.Ytkbpjaojgkpffaa
