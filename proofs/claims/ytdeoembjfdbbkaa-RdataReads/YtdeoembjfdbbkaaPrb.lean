/- Texts laid together: Nr Ns Nt Nu Nv Bk Np Dsp Dbk Dor. -/
import Derived.Test.YtdeoembjfdbbkaaPra
/- Names, as the document has them: their size, whether they may be, what they have in common. -/
namespace Go.Proofs.Ytdeoembjfdbbkaa
open Go.ChangeShapes Go.WideShapes Go.ChangeAt Go.RowKit
set_option linter.unusedVariables false
set_option linter.unusedSimpArgs false


/-- The size of a name. -/
def nsz : List ByteArray → Nat
  | [] => 1
  | s :: r => s.size + 1 + nsz r
theorem nsz_snoc (l : List ByteArray) (s : ByteArray) : nsz (l ++ [s]) = nsz l + s.size + 1 := by
  induction l with
  | nil => simp [nsz]; omega
  | cons x l ih => simp only [List.cons_append, nsz, ih]; omega
theorem nsz_le (l : List ByteArray) (k : Nat) : nsz (l.take k) ≤ nsz l := by
  induction l generalizing k with
  | nil => simp [nsz]
  | cons x l ih =>
    cases k with
    | zero => simp [nsz]; omega
    | succ k => simp only [List.take_succ_cons, nsz]; have := ih k; omega
theorem take_snocT (ss : List ByteArray) (k : Nat) (h : k < ss.length) : ss.take (k + 1) = ss.take k ++ [ss[k]] := List.take_succ_eq_append_getElem h
/-- Whether all labels may be; the error of a name. -/
def labsOk (ss : List ByteArray) : Prop := ∀ s ∈ ss, chk s.size = 0
instance (ss : List ByteArray) : Decidable (labsOk ss) := by unfold labsOk; exact inferInstance
def nck (ss : List ByteArray) : Int := if labsOk ss then (if 255 < nsz ss then 5 else 0) else 4
theorem chk_cases (n : Nat) : chk n = 0 ∨ chk n = 4 := by unfold chk; split <;> simp
set_option maxRecDepth 100000 in
set_option maxHeartbeats 1000000 in
theorem refsize_any (a : Option Addr) (len cap : Nat) (ss : List ByteArray) (w : World) (hr : RdT w a ss) (hl : ss.length = len) (hm : nsz ss ≤ 1000000000000000) :
    Calls Try.prog 85 #[.slice a len cap] w fun e w' => e = .returned (.int .i64 (nsz ss)) ∧ w' = w := by
  have HR : Hid (RdT w a ss) := hr
  have HL : Hid (ss.length = len) := hl
  have hln : len ≤ 9223372036854775807 := by
    have : ∀ l : List ByteArray, l.length ≤ nsz l := by
      intro l; induction l with
      | nil => simp [nsz]
      | cons x l ih => simp only [List.length_cons, nsz]; omega
    have := this ss
    omega
  obtain ⟨T, hT⟩ : ∃ T, nsz ss = T := ⟨_, rfl⟩
  have HT : Hid (nsz ss = T) := hT
  rw [hT] at hm ⊢
  clear hr hl hT
  go_enter Try.func85, Try.ntmps85
  go_wp2_with fail
  go_loop [3, 4] (fun n x => ∃ k m : Nat, k ≤ len ∧ m ≤ T ∧ x = .int .i64 k ∧ n = .int .i64 m ∧ Hid (nsz (ss.take k) = m)) (fun _ x => len - (intOf x).toNat)
  case atStart => exact ⟨0, 1, Nat.zero_le _, by rw [← HT.out]; exact nsz_le ss 0, rfl, rfl, rfl⟩
  case round =>
    obtain ⟨k, m, hk, hmT, rfl, rfl, HM⟩ := hrel
    by_cases hlt : k < len
    · have hlt' : (k : Int) < (len : Int) := by omega
      have hks : k < ss.length := by rw [HL.out]; exact hlt
      obtain ⟨b, o, rfl, hb, hc⟩ := HR.out.at k hks
      have hn : nsz (ss.take (k + 1)) = m + ss[k].size + 1 := by rw [take_snocT ss k hks, nsz_snoc, HM.out]
      have hle := nsz_le ss (k + 1)
      rw [hn, HT.out] at hle
      have HN : Hid (nsz (ss.take (k + 1)) = m + ss[k].size + 1) := hn
      clear hn
      generalize ss[k] = s at *
      go_wp2
      go_round
      case rel => exact ⟨k + 1, m + s.size + 1, by omega, hle, by go_num, by go_num, HN⟩
      case measure => simp [intOf]; omega
    · have hge : (len : Int) ≤ (k : Int) := by omega
      have e : m = T := by rw [← HM.out, ← HT.out, List.take_of_length_le (by rw [HL.out]; omega)]
      subst e
      go_wp2
      go_ret
      exact ⟨rfl, rfl⟩
set_option maxRecDepth 100000 in
set_option maxHeartbeats 1000000 in
theorem refcheck_any (a : Option Addr) (len cap : Nat) (ss : List ByteArray) (w : World) (hr : RdT w a ss) (hl : ss.length = len) (hm : nsz ss ≤ 1000000000000000) (hlen : len ≤ 9223372036854775807) (hz : ∀ s ∈ ss, s.size ≤ 9223372036854775807) :
    Calls Try.prog 58 #[.slice a len cap] w fun e w' => e = .returned (.int .i64 (nck ss)) ∧ w' = w := by
  have HR : Hid (RdT w a ss ∧ ∀ s ∈ ss, s.size ≤ 9223372036854775807) := ⟨hr, hz⟩
  have HL : Hid (ss.length = len) := hl
  have HS : Hid (∀ W, RdT W a ss → Calls Try.prog 85 #[.slice a len cap] W fun e w' => e = .returned (.int .i64 (nsz ss)) ∧ w' = W) := fun W hW => refsize_any a len cap ss W hW hl hm
  obtain ⟨T, hT⟩ : ∃ T, nsz ss = T := ⟨_, rfl⟩
  have HT : Hid (nsz ss = T) := hT
  rw [hT] at hm HS
  clear hr hl hT hz
  go_enter Try.func58, Try.ntmps58
  go_wp2_with fail
  go_loopw [3] (fun x wr => ∃ k : Nat, k ≤ len ∧ x = .int .i64 k ∧ wr = w ∧ Hid (∀ i (h : i < ss.length), i < k → chk ss[i].size = 0)) (fun x _ => len - (intOf x).toNat)
  case atStart => exact ⟨0, Nat.zero_le _, rfl, rfl, fun i _ h => absurd h (by omega)⟩
  case round =>
    obtain ⟨k, hk, rfl, rfl, HK⟩ := hrel
    by_cases hlt : k < len
    · have hlt' : (k : Int) < (len : Int) := by omega
      have hks : k < ss.length := by rw [HL.out]; exact hlt
      obtain ⟨b, o, rfl, hb, hc⟩ := HR.out.1.at k hks
      have HC : Hid (∀ W, Calls Try.prog 84 #[.string ss[k]] W fun e w' => e = .returned (.int .i64 (chk ss[k].size)) ∧ w' = W) := fun W => rchk_any ss[k] W (HR.out.2 _ (List.getElem_mem hks))
      rcases chk_cases ss[k].size with hk0 | hk4
      · have HN : Hid (∀ i (h : i < ss.length), i < k + 1 → chk ss[i].size = 0) := by
          intro i h hi
          by_cases e : i = k
          · subst e; exact hk0
          · exact HK.out i h (by omega)
        rw [hk0] at HC
        clear hk0 HK
        generalize ss[k] = s at *
        go_wp2_with fail
        refine (HC.out _).mono ?_
        rintro e w1 ⟨rfl, rfl⟩
        go_wp2
        exact ⟨⟨k + 1, by omega, by go_num, trivial, HN⟩, by simp [intOf]; omega⟩
      · have HE : Hid (nck ss = 4) := by
          show nck ss = 4
          unfold nck
          rw [if_neg (fun h => by have := h _ (List.getElem_mem hks); rw [hk4] at this; cases this)]
        rw [hk4] at HC
        clear hk4 HK
        generalize ss[k] = s at *
        go_wp2_with fail
        refine (HC.out _).mono ?_
        rintro e w1 ⟨rfl, rfl⟩
        go_wp2
        go_ret
        exact ⟨by rw [HE.out]; rfl, rfl⟩
    · have hge : (len : Int) ≤ (k : Int) := by omega
      have HO : Hid (labsOk ss) := by
        intro s hs
        obtain ⟨i, hi, rfl⟩ := List.getElem_of_mem hs
        exact HK.out i hi (by have := HL.out; omega)
      by_cases hb : 255 < T
      · have HE : Hid (nck ss = 5) := by show nck ss = 5; unfold nck; rw [if_pos HO.out, HT.out, if_pos hb]
        have hb' : (255 : Int) < (T : Int) := by omega
        clear HK HO
        go_wp2_with fail
        refine (HS.out _ HR.out.1).mono ?_
        rintro e w1 ⟨rfl, rfl⟩
        go_wp2
        go_ret
        exact ⟨by rw [HE.out]; rfl, rfl⟩
      · have HE : Hid (nck ss = 0) := by show nck ss = 0; unfold nck; rw [if_pos HO.out, HT.out, if_neg hb]
        have hb' : ¬ (255 : Int) < (T : Int) := by omega
        clear HK HO
        go_wp2_with fail
        refine (HS.out _ HR.out.1).mono ?_
        rintro e w1 ⟨rfl, rfl⟩
        go_wp2
        go_ret
        exact ⟨by rw [HE.out]; rfl, rfl⟩
/-- How many first labels of two lists are the same; how two lists stand, the first labels first. -/
def comR : List ByteArray → List ByteArray → Nat
  | x :: a, y :: b => if cmp x y = 0 then comR a b + 1 else 0
  | _, _ => 0
def cmpR : List ByteArray → List ByteArray → Int
  | [], [] => 0
  | [], _ :: _ => -1
  | _ :: _, [] => 1
  | x :: a, y :: b => if cmp x y = 0 then cmpR a b else cmp x y
/-- The same, of names: from the last label on. -/
def ncom (a b : List ByteArray) : Nat := comR a.reverse b.reverse
def ncmp (a b : List ByteArray) : Int := cmpR a.reverse b.reverse
theorem rev_drop (ss : List ByteArray) (k : Nat) (h : k < ss.length) : ss.reverse.drop k = ss[ss.length - 1 - k] :: ss.reverse.drop (k + 1) := by
  rw [List.drop_eq_getElem_cons (by simpa using h)]
  simp
theorem comR_le : ∀ a b : List ByteArray, comR a b ≤ a.length ∧ comR a b ≤ b.length
  | [], _ => by simp [comR]
  | _ :: _, [] => by simp [comR]
  | x :: a, y :: b => by
    unfold comR
    have := comR_le a b
    split <;> simp <;> omega
theorem ncom_le (a b : List ByteArray) : ncom a b ≤ a.length ∧ ncom a b ≤ b.length := by
  have := comR_le a.reverse b.reverse
  simpa [ncom] using this
theorem cmpR_com : ∀ a b : List ByteArray, cmpR a b = if comR a b = a.length ∧ comR a b = b.length then 0 else if comR a b = a.length then -1 else if comR a b = b.length then 1 else cmp (a.getD (comR a b) ⟨#[]⟩) (b.getD (comR a b) ⟨#[]⟩)
  | [], [] => by simp [cmpR, comR]
  | [], _ :: _ => by simp [cmpR, comR]
  | _ :: _, [] => by simp [cmpR, comR]
  | x :: a, y :: b => by
    unfold cmpR comR
    by_cases h : cmp x y = 0
    · rw [if_pos h, if_pos h, cmpR_com a b]
      simp
    · rw [if_neg h, if_neg h]
      simp
end Go.Proofs.Ytdeoembjfdbbkaa
/- Names, as the document has them: the same, under, folded, cut, joined. -/
namespace Go.Proofs.Ytdeoembjfdbbkaa
open Go.ChangeShapes Go.WideShapes Go.ChangeAt Go.RowKit
set_option linter.unusedVariables false
set_option linter.unusedSimpArgs false


/-- What is asked of a name that is read: it lies there, and is not too great. -/
structure Nm (w : World) (a : Option Addr) (n : Nat) (ss : List ByteArray) : Prop where
  rd : RdT w a ss
  len : ss.length = n
  sz : nsz ss ≤ 1000000000000
theorem nsz_len : ∀ l : List ByteArray, l.length + 1 ≤ nsz l
  | [] => by simp [nsz]
  | x :: l => by have := nsz_len l; simp only [List.length_cons, nsz]; omega
theorem nsz_mem : ∀ (l : List ByteArray) (s : ByteArray), s ∈ l → s.size ≤ nsz l
  | x :: l, s, h => by
    simp only [nsz]
    rcases List.mem_cons.1 h with rfl | h
    · omega
    · have := nsz_mem l s h; omega
theorem Nm.below {w w' : World} {a : Option Addr} {n : Nat} {ss : List ByteArray} (h : Nm w a n ss) (hb : Below w.heap.size w w') : Nm w' a n ss := ⟨h.rd.below hb, h.len, h.sz⟩
theorem Nm.n63 {w : World} {a : Option Addr} {n : Nat} {ss : List ByteArray} (h : Nm w a n ss) : n ≤ 1000000000000 := by have := nsz_len ss; have := h.len; have := h.sz; omega
theorem Nm.mem {w : World} {a : Option Addr} {n : Nat} {ss : List ByteArray} (h : Nm w a n ss) (s : ByteArray) (hs : s ∈ ss) : s.size ≤ 1000000000000 := Nat.le_trans (nsz_mem ss s hs) h.sz
theorem nm_check {a : Option Addr} {n : Nat} {ss : List ByteArray} {w : World} (c : Nat) (h : Nm w a n ss) : Calls Try.prog 58 #[.slice a n c] w fun e w' => e = .returned (.int .i64 (nck ss)) ∧ w' = w :=
  refcheck_any a n c ss w h.rd h.len (by have := h.sz; omega) (by have := h.n63; omega) (fun s hs => by have := h.mem s hs; omega)
theorem beq_nat (k n : Nat) : ((k : Int) == (n : Int)) = (k == n) := by
  by_cases h : k = n
  · subst h; simp
  · have h2 : ¬ (k : Int) = (n : Int) := by omega
    rw [beq_false_of_ne h, beq_false_of_ne h2]
def nsame (ss ts : List ByteArray) : Bool := ss.length == ts.length && ncom ss ts == ss.length
def nunder (ss ts : List ByteArray) : Bool := ncom ss ts == ts.length
/-- What a call that makes a name answers: the labels, the error. -/
def NPost (r : List ByteArray) (k : Int) (w : World) (e : Ending) (w' : World) : Prop :=
  ∃ v ys, e = .returned (.tuple #[v, .int .i64 k]) ∧ Hid (OwnT w.heap.size w' v r.length ys 1000000000000 ∧ ys.take r.length = r ∧ Below w.heap.size w w')
theorem npost_none {k : Int} {w w' : World} {e : Ending} (he : e = .returned (.tuple #[.slice none 0 0, .int .i64 k])) (hb : Below w.heap.size w w') : NPost [] k w e w' :=
  ⟨.slice none 0 0, [], he, OwnT.nil _ _ _, rfl, hb⟩
def nparent (ss : List ByteArray) : List ByteArray × Int := if nck ss = 0 then (if ss.length = 0 then ([], 9) else (ss.drop 1, 0)) else ([], nck ss)
def nabove (ss : List ByteArray) (d : Int) : List ByteArray × Int := if nck ss = 0 then (if d < 0 ∨ (ss.length : Int) < d then ([], 2) else (ss.drop (ss.length - d.toNat), 0)) else ([], nck ss)
theorem nsz_drop (l : List ByteArray) (k : Nat) : nsz (l.drop k) ≤ nsz l := by
  induction l generalizing k with
  | nil => simp [nsz]
  | cons x l ih =>
    cases k with
    | zero => simp
    | succ k => simp only [List.drop_succ_cons, nsz]; have := ih k; omega
theorem Nm.cut {w : World} {a a' : Option Addr} {n : Nat} {ss : List ByteArray} (h : Nm w a n ss) (p : Nat) (ha : p < ss.length → ∀ b o, a = some ⟨b, o, none⟩ → a' = some ⟨b, o + p, none⟩) : Nm w a' (n - p) (ss.drop p) := by
  refine ⟨?_, by rw [List.length_drop, h.len], Nat.le_trans (nsz_drop ss p) h.sz⟩
  have := RdV.cut (w := w) (a := a) (xs := tv ss) h.rd p (tv ss).length (a' := a') (fun hp => ha (by rw [tv_len] at hp; exact hp))
  rw [List.take_of_length_le (by simp), tv_drop] at this
  exact this
theorem nm_nil (w : World) (a : Option Addr) : Nm w a 0 [] := ⟨.inl rfl, rfl, by decide⟩
theorem nck_small {ss : List ByteArray} (h : nck ss = 0) : nsz ss ≤ 255 ∧ labsOk ss := by
  unfold nck at h
  split at h
  · rename_i h1
    split at h
    · cases h
    · exact ⟨by omega, h1⟩
  · cases h
theorem nsz_append (a b : List ByteArray) : nsz (a ++ b) + 1 = nsz a + nsz b := by
  induction a with
  | nil => simp [nsz]; omega
  | cons x a ih => simp only [List.cons_append, nsz]; omega
def njoin (a b : List ByteArray) : List ByteArray × Int := if nck a = 0 then (if nck b = 0 then (if nck (a ++ b) = 0 then (a ++ b, 0) else ([], 5)) else ([], nck b)) else ([], nck a)
end Go.Proofs.Ytdeoembjfdbbkaa
/- Names, as the document has them: folded, their text, their bytes. -/
namespace Go.Proofs.Ytdeoembjfdbbkaa
open Go.ChangeShapes Go.WideShapes Go.ChangeAt Go.RowKit
set_option linter.unusedVariables false
set_option linter.unusedSimpArgs false

/-- A label's text; the text of labels, a . behind each. -/
def tb (s : ByteArray) : ByteArray := ⟨(txt (tx (nums s))).toArray⟩
def ntxt (l : List ByteArray) : ByteArray := l.foldl (fun acc s => acc ++ tb s ++ ⟨#[46]⟩) ⟨#[]⟩
theorem ntxt_snoc (l : List ByteArray) (s : ByteArray) : ntxt (l ++ [s]) = ntxt l ++ tb s ++ ⟨#[46]⟩ := by simp [ntxt, List.foldl_append]
theorem tb_size (s : ByteArray) : (tb s).size ≤ 4 * s.size := by
  have := tx_len (nums s)
  rw [nums_len] at this
  show (txt (tx (nums s))).toArray.size ≤ _
  simp [txt]
  exact this
theorem ntxt_size (l : List ByteArray) : ∀ k, k ≤ l.length → (ntxt (l.take k)).size ≤ 4 * nsz l := by
  intro k
  induction k with
  | zero => intro _; exact Nat.zero_le _
  | succ k ih =>
    intro hk
    have hkl : k < l.length := by omega
    have h0 : ∀ j, j ≤ l.length → (ntxt (l.take j)).size ≤ 4 * nsz (l.take j) := by
      intro j
      induction j with
      | zero => intro _; exact Nat.zero_le _
      | succ j ihj =>
        intro hj
        have hjl : j < l.length := by omega
        rw [take_snocT l j hjl, ntxt_snoc, nsz_snoc, ByteArray.size_append, ByteArray.size_append]
        have := ihj (by omega)
        have := tb_size l[j]
        show _ + _ + 1 ≤ _
        omega
    have := h0 (k + 1) hk
    have := nsz_le l (k + 1)
    omega
/-- What Text answers. -/
def ntext (ss : List ByteArray) : ByteArray × Int := if nck ss = 0 then (if ss.length = 0 then (⟨#[46]⟩, 0) else (ntxt ss, 0)) else (⟨#[]⟩, nck ss)
theorem tyB : ElemTy Try.prog 27 5 (.int .u8 0) 1 := ⟨Try.underlying27, by kernel_rfl, rfl⟩
def QB (u : Value) : Prop := ∃ z : Int, u = .int .u8 z ∧ 0 ≤ z ∧ z ≤ 255
theorem bytes_of : ∀ xs : List Value, (∀ u ∈ xs, QB u) → ∃ zs : List Int, xs = zs.map (Value.int .u8) ∧ ∀ z ∈ zs, 0 ≤ z ∧ z ≤ 255
  | [], _ => ⟨[], rfl, by simp⟩
  | x :: xs, h => by
    obtain ⟨zs, e1, e2⟩ := bytes_of xs (fun u hu => h u (by simp [hu]))
    obtain ⟨z, rfl, hz⟩ := h x (by simp)
    refine ⟨z :: zs, by rw [e1]; rfl, fun q hq => ?_⟩
    rcases List.mem_cons.1 hq with rfl | hq
    · exact hz
    · exact e2 q hq
theorem qb_map {zs : List Int} (h : ∀ z ∈ zs, 0 ≤ z ∧ z ≤ 255) : ∀ u ∈ zs.map (Value.int .u8), QB u := by
  intro u hu
  simp only [List.mem_map] at hu
  obtain ⟨z, hz, rfl⟩ := hu
  exact ⟨z, rfl, h z hz⟩
theorem Own.all {B : Nat} {w : World} {v : Value} {n : Nat} {zs : List Int} (h : Own B w v n zs) : ∀ z ∈ zs, 0 ≤ z ∧ z ≤ 255 := by
  rcases h with ⟨_, _, rfl⟩ | ⟨g, _, _, hb, _⟩
  · simp
  · exact hb.2
theorem Own.toV {B : Nat} {w : World} {v : Value} {n : Nat} {zs : List Int} (h : Own B w v n zs) : OwnV B w 5 v n (zs.map (Value.int .u8)) := by
  rcases h with ⟨h1, h2, rfl⟩ | ⟨g, h1, h2, hb, h3, h4⟩
  · exact .inl ⟨h1, h2, rfl⟩
  · exact .inr ⟨g, by rw [List.length_map]; exact h1, h2, hb.1, by rw [List.length_map]; exact h3, by rw [List.length_map]; exact h4⟩
theorem OwnV.toOwn {B : Nat} {w : World} {v : Value} {n : Nat} {zs : List Int} (h : OwnV B w 5 v n (zs.map (Value.int .u8))) (hz : ∀ z ∈ zs, 0 ≤ z ∧ z ≤ 255) : Own B w v n zs := by
  rcases h with ⟨h1, h2, h3⟩ | ⟨g, h1, h2, hb, h3, h4⟩
  · exact .inl ⟨h1, h2, by simpa using h3⟩
  · rw [List.length_map] at h1 h3 h4
    exact .inr ⟨g, h1, h2, ⟨hb, hz⟩, h3, h4⟩
theorem int_inj : ∀ {a b : List Int}, a.map (Value.int .u8) = b.map (Value.int .u8) → a = b
  | [], [], _ => rfl
  | [], _ :: _, h => by simp at h
  | _ :: _, [], h => by simp at h
  | x :: a, y :: b, h => by
    simp only [List.map_cons, List.cons.injEq, Value.int.injEq, true_and] at h
    rw [h.1, int_inj (a := a) (b := b) h.2]
theorem cells_nums (t : ByteArray) : byteCells t = (nums t).map (Value.int .u8) := by
  simp [byteCells, nums]
/-- A text's bytes appended. -/
theorem wpList_append_str (w : World) {ops : Array Oper} {rest : List Oper} {o : Oper} {a : Act} {Q : Exit → Act → World → Prop} (hgd : o.guard = none) (s x : Operand)
    (ho : o.op = .call { callee := .builtin .append, args := #[s, x], argTypes := #[27, 9] }) (B : Nat) (v : Value) (n : Nat) (zs : List Int) (hs : a.eval s = v) (hown : Own B w v n zs)
    (t : ByteArray) (hx : a.eval x = .string t) (hb : n + t.size ≤ 140737488355328) (hB : B ≤ w.heap.size)
    (h : ∀ v' w' zs', Hid (Own B w' v' (n + t.size) zs') → Hid (zs'.take (n + t.size) = zs.take n ++ nums t) → w.grownBy w' v.ownBlock → wpList Try.prog ops Q rest (a.put o.dst v') w') : wpList Try.prog ops Q (o :: rest) a w := by
  refine wpList_append_row tyB w hgd s x 9 ho B v n (zs.map (Value.int .u8)) hs hown.toV (.string t) t.size (byteCells t) hx (Src.ofString w Try.underlying9 t) (by omega) (by simp only [maxLen]; omega) hB ?_
  intro v' w' xs' h1 h2 h3 h4
  obtain ⟨ys, rfl, hys⟩ := bytes_of xs' (h4.out.1 QB ⟨0, rfl, by omega, by omega⟩ (qb_map hown.all) (by rw [cells_nums]; exact qb_map (nums_all t)))
  refine h v' w' ys (h1.out.toOwn hys) ?_ h3
  have h2' := h2.out
  rw [cells_nums, ← List.map_take, ← List.map_take, ← List.map_append] at h2'
  exact int_inj h2'
/-- The bytes of labels, each with its length ahead. -/
def nby (l : List ByteArray) : List Int := l.flatMap fun s => (s.size : Int) :: nums s
theorem nby_snoc (l : List ByteArray) (s : ByteArray) : nby (l ++ [s]) = nby l ++ [(s.size : Int)] ++ nums s := by simp [nby]
theorem nby_len (l : List ByteArray) : (nby l).length + 1 = nsz l := by
  induction l with
  | nil => simp [nby, nsz]
  | cons x l ih => simp only [nby, List.flatMap_cons, List.length_append, List.length_cons, nums_len, nsz] at ih ⊢; omega
def nbytes (ss : List ByteArray) : List Int × Int := if nck ss = 0 then (nby ss ++ [0], 0) else ([], nck ss)
set_option maxRecDepth 100000 in
set_option maxHeartbeats 2000000 in
theorem refnbytes_any (a : Option Addr) (n c : Nat) (ss : List ByteArray) (w : World) (h : Nm w a n ss) :
    Calls Try.prog 60 #[.slice a n c] w fun e w' => ∃ v ys, e = .returned (.tuple #[v, .int .i64 (nbytes ss).2]) ∧ Hid (Own w.heap.size w' v (nbytes ss).1.length ys ∧ ys.take (nbytes ss).1.length = (nbytes ss).1 ∧ Below w.heap.size w w') := by
  have KC : Hid (Calls Try.prog 58 #[.slice a n c] w fun e w' => e = .returned (.int .i64 (nck ss)) ∧ w' = w) := nm_check c h
  have HN : Hid (Nm w a n ss) := h
  have hn := h.n63
  have HL : Hid (ss.length = n) := h.len
  by_cases hk : nck ss = 0
  · rw [hk] at KC
    have hsm := nck_small hk
    have hp : nbytes ss = (nby ss ++ [0], 0) := by unfold nbytes; rw [if_pos hk]
    rw [hp]
    have HSZ : Hid (∀ k, (nby (ss.take k)).length ≤ 255) := fun k => by have := nby_len (ss.take k); have := nsz_le ss k; omega
    have HLB : Hid (∀ s ∈ ss, s.size ≤ 63) := fun s hs => by
      have := hsm.2 s hs
      unfold chk at this
      split at this
      · omega
      · cases this
    clear h hk hp hsm
    go_enter Try.func60, Try.ntmps60
    go_wp2_with fail
    refine KC.out.mono ?_
    rintro e w1 ⟨rfl, rfl⟩
    go_wp2_with fail
    go_loopw [5, 6] (fun v x wr => ∃ (k m : Nat), k ≤ n ∧ m ≤ 255 ∧ x = .int .i64 k ∧ Hid ((nby (ss.take k)).length = m) ∧ Hid (∃ ys, Own w1.heap.size wr v m ys ∧ ys.take m = nby (ss.take k)) ∧ Hid (Below w1.heap.size w1 wr)) (fun _ x _ => n - (intOf x).toNat)
    case atStart => exact ⟨0, 0, Nat.zero_le _, by omega, rfl, rfl, ⟨[], .inl ⟨rfl, rfl, rfl⟩, rfl⟩, Below.refl _ _⟩
    case round =>
      obtain ⟨k, m, hkn, hm, rfl, HM, HW, HB⟩ := hrel
      by_cases hlt : k < n
      · have hlt' : (k : Int) < (n : Int) := by omega
        have hks : k < ss.length := by rw [HL.out]; exact hlt
        obtain ⟨b, o, rfl, hb, hc⟩ := (HN.out.below HB.out).rd.at k hks
        have HCE : Hid (∀ W, Below w1.heap.size w1 W → W.cell? ⟨b, o + k, none⟩ = some (.string ss[k])) := by
          intro W hW
          obtain ⟨b', o', e, _, h2⟩ := (HN.out.below hW).rd.at k hks
          cases e
          exact h2
        have hsz := HLB.out _ (List.getElem_mem hks)
        have HT : Hid (nby (ss.take (k + 1)) = nby (ss.take k) ++ [(ss[k].size : Int)] ++ nums ss[k] ∧ (nby (ss.take (k + 1))).length = m + 1 + ss[k].size) := by
          have e : nby (ss.take (k + 1)) = nby (ss.take k) ++ [(ss[k].size : Int)] ++ nums ss[k] := by rw [take_snocT ss k hks, nby_snoc]
          exact ⟨e, by rw [e, List.length_append, List.length_append, HM.out, nums_len]; rfl⟩
        have hz2 := HSZ.out (k + 1)
        rw [HT.out.2] at hz2
        generalize ss[k] = s at *
        obtain ⟨ys, hO, hTk⟩ := HW.out
        have hnb : Below wr.heap.size wr (wr.alloc (.cells #[.int .u8 (s.size : Int)] 5)) := (Below.refl _ _).alloc (Nat.le_refl _) _
        have HO2 : Hid (Own w1.heap.size (wr.alloc (.cells #[.int .u8 (s.size : Int)] 5)) u5 m ys ∧ ys.take m = nby (ss.take k)) := ⟨hO.below hnb, hTk⟩
        have HR2 : Hid (Rd (wr.alloc (.cells #[.int .u8 (s.size : Int)] 5)) (some ⟨wr.heap.size, 0, none⟩) [(s.size : Int)]) := new_rd wr _ (by omega)
        have HNB : Hid (Below wr.heap.size wr (wr.alloc (.cells #[.int .u8 (s.size : Int)] 5))) := hnb
        clear hO hTk hnb
        have hmod : (s.size : Int) % 256 = (s.size : Int) := by omega
        go_wp2_with (at_builtin; first
          | (refine wpList_append_blk _ rfl _ _ rfl w1.heap.size _ m ys rfl HO2.out.1 (some ⟨wr.heap.size, 0, none⟩) 1 1 [(s.size : Int)] rfl HR2.out rfl (by simp) (by omega) (Nat.le_trans HB.out.size HNB.out.size) ?_; intro v' w' ys' hO' hT' hG'; have HB2 : Hid (Below w1.heap.size w1 w') := ((HB.out.trans (HNB.out.mono HB.out.size)).grown hG' (Nat.le_trans HB.out.size HNB.out.size) HO2.out.1.lt); have hc2 : w'.cell? ⟨b, o + k, none⟩ = some (.string s) := HCE.out _ HB2.out; clear HR2 hG')
          | (refine wpList_append_str _ rfl _ _ rfl w1.heap.size _ (m + 1) ys' rfl hO'.out s rfl (by omega) HB2.out.size ?_; intro v2 w2 ys2 hO2 hT2 hG2))
        refine ⟨⟨k + 1, m + 1 + s.size, by omega, hz2, by go_num, HT.out.2, ⟨ys2, hO2.out, ?_⟩, ?_⟩, by simp [intOf]; omega⟩
        · rw [hT2.out, hT'.out, HO2.out.2, HT.out.1]
        · exact HB2.out.grown hG2 HB2.out.size hO'.out.lt
      · have hge : (n : Int) ≤ (k : Int) := by omega
        have ek : ss.take k = ss := List.take_of_length_le (by rw [HL.out]; omega)
        obtain ⟨ys, hO, hTk⟩ := HW.out
        rw [ek] at hTk
        have HM2 : Hid ((nby ss).length = m) := by have := HM.out; rw [ek] at this; exact this
        have hnb : Below wr.heap.size wr (wr.alloc (.cells #[.int .u8 0] 5)) := (Below.refl _ _).alloc (Nat.le_refl _) _
        have HO2 : Hid (Own w1.heap.size (wr.alloc (.cells #[.int .u8 0] 5)) u5 m ys ∧ ys.take m = nby ss) := ⟨hO.below hnb, hTk⟩
        have HR2 : Hid (Rd (wr.alloc (.cells #[.int .u8 0] 5)) (some ⟨wr.heap.size, 0, none⟩) [0]) := new_rd wr _ (by omega)
        have HNB : Hid (Below wr.heap.size wr (wr.alloc (.cells #[.int .u8 0] 5))) := hnb
        clear hO hTk hnb ek
        go_wp2_with (at_builtin; refine wpList_append_blk _ rfl _ _ rfl w1.heap.size _ m ys rfl HO2.out.1 (some ⟨wr.heap.size, 0, none⟩) 1 1 [0] rfl HR2.out rfl (by simp) (by omega) (Nat.le_trans HB.out.size HNB.out.size) ?_; intro v' w' ys' hO' hT' hG'; have HB2 : Hid (Below w1.heap.size w1 w') := ((HB.out.trans (HNB.out.mono HB.out.size)).grown hG' (Nat.le_trans HB.out.size HNB.out.size) HO2.out.1.lt); clear hG')
        go_ret2
        refine ⟨v', ys', rfl, ?_, ?_, HB2.out⟩
        · rw [List.length_append, HM2.out]; exact hO'.out
        · rw [List.length_append, HM2.out]; exact hT'.out.trans (by rw [HO2.out.2])
  · have hp : nbytes ss = ([], nck ss) := by unfold nbytes; rw [if_neg hk]
    rw [hp]
    generalize nck ss = q at *
    have hq : (q != 0) = true := bne_iff_ne.2 hk
    clear h hk hp
    go_enter Try.func60, Try.ntmps60
    go_wp2_with fail
    refine KC.out.mono ?_
    rintro e w1 ⟨rfl, rfl⟩
    go_wp2
    go_ret2
    exact ⟨.slice none 0 0, [], rfl, .inl ⟨rfl, rfl, rfl⟩, rfl, Below.refl _ _⟩
end Go.Proofs.Ytdeoembjfdbbkaa
/- Names out of texts, as the document reads them. -/
namespace Go.Proofs.Ytdeoembjfdbbkaa
open Go.ChangeShapes Go.WideShapes Go.ChangeAt Go.RowKit
set_option linter.unusedVariables false
set_option linter.unusedSimpArgs false


theorem go_le (l : List Int) (hb : ∀ z ∈ l, 0 ≤ z ∧ z ≤ 255) : ∀ (n p : Nat) (out o : List Int) (q : Nat), l.length - p ≤ n → p ≤ l.length → go l p out = some (o, q) → p ≤ q ∧ q ≤ l.length := by
  intro n
  induction n with
  | zero =>
    intro p out o q hn hp h
    rw [go_stop _ _ _ (by omega)] at h
    cases h
    omega
  | succ n ih =>
    intro p out o q hn hp h
    by_cases hs : p < l.length ∧ l.getD p 0 ≠ 46
    · by_cases hf : (fr (l.drop p)).2 ≤ 0
      · rw [go_bad _ _ _ hs hf] at h; cases h
      · rw [go_step _ _ _ hs hf] at h
        have hfb := fr_bd (l.drop p) (fun z hz => hb z (List.mem_of_mem_drop hz)) (by rw [List.length_drop]; omega)
        rw [List.length_drop] at hfb
        have := ih _ _ _ _ (by omega) (by omega) h
        omega
    · rw [go_stop _ _ _ hs] at h
      cases h
      omega
theorem pres_le (l : List Int) (hb : ∀ z ∈ l, 0 ≤ z ∧ z ≤ 255) (h : (pres l).2.2 = 0) : ∃ p : Nat, (pres l).2.1 = (p : Int) ∧ p ≤ l.length ∧ 1 ≤ (pres l).1.length ∧ (pres l).1.length ≤ 63 := by
  unfold pres at h ⊢
  cases hg : go l 0 [] with
  | none => rw [hg] at h; cases h
  | some r =>
    obtain ⟨o, q⟩ := r
    rw [hg] at h
    simp only at h ⊢
    split at h
    · rename_i h1
      rw [if_pos h1]
      exact ⟨q, rfl, (go_le l hb _ 0 [] o q (Nat.le_refl _) (Nat.zero_le _) hg).2, h1.1, h1.2⟩
    · cases h
theorem pres_err (l : List Int) : (pres l).2.2 = 0 ∨ (pres l).2.2 = 4 ∨ (pres l).2.2 = 120 := by
  unfold pres
  cases go l 0 [] with
  | none => simp
  | some r => simp only; split <;> simp
/-- A label out of bytes. -/
def lb (l : List Int) : ByteArray := ⟨(txt l).toArray⟩
theorem lb_size (l : List Int) : (lb l).size = l.length := txt_size l
/-- The labels of a text, up to its end; whether a . stands behind the last one; the error. -/
def lgo (l : List Int) (out : List ByteArray) : List ByteArray × Bool × Int :=
  if (pres l).2.2 = 0 then
    if (pres l).2.1 = (l.length : Int) then (out ++ [lb (pres l).1], false, 0)
    else if h : (l.drop ((pres l).2.1.toNat + 1)).length = 0 then (out ++ [lb (pres l).1], true, 0)
    else lgo (l.drop ((pres l).2.1.toNat + 1)) (out ++ [lb (pres l).1])
  else ([], false, (pres l).2.2)
termination_by l.length
decreasing_by
  simp only [List.length_drop] at h ⊢
  omega
def LPost (r : List ByteArray × Bool × Int) (w : World) (e : Ending) (w' : World) : Prop :=
  ∃ v ys, e = .returned (.tuple #[v, .bool r.2.1, .int .i64 r.2.2]) ∧ Hid (OwnT w.heap.size w' v r.1.length ys 1000000000000 ∧ ys.take r.1.length = r.1 ∧ Below w.heap.size w w')
theorem lgo_bd : ∀ (n : Nat) (l : List Int) (out : List ByteArray), l.length ≤ n → (∀ z ∈ l, 0 ≤ z ∧ z ≤ 255) → (∀ x ∈ out, x.size ≤ 63) → (∀ x ∈ (lgo l out).1, x.size ≤ 63) ∧ (lgo l out).1.length ≤ out.length + l.length + 1 := by
  intro n
  induction n with
  | zero =>
    intro l out hl hb ho
    have e : l = [] := List.eq_nil_of_length_eq_zero (by omega)
    subst e
    rw [lgo, if_neg]
    · simp
    · have : pres [] = ([], 0, 4) := (pres_no (l := []) (out := []) (p := 0) (go_stop _ _ _ (by simp)) (by decide)).1
      rw [this]
      decide
  | succ n ih =>
    intro l out hl hb ho
    rw [lgo]
    by_cases h0 : (pres l).2.2 = 0
    · rw [if_pos h0]
      obtain ⟨p, hp, hpl, hl1, hl2⟩ := pres_le l hb h0
      have ho2 : ∀ x ∈ out ++ [lb (pres l).1], x.size ≤ 63 := by
        intro x hx
        rcases List.mem_append.1 hx with hx | hx
        · exact ho x hx
        · simp at hx; subst hx; rw [lb_size]; exact hl2
      rw [hp, Int.toNat_natCast]
      split
      · exact ⟨ho2, by rw [List.length_append]; show out.length + 1 ≤ _; omega⟩
      · split
        · exact ⟨ho2, by rw [List.length_append]; show out.length + 1 ≤ _; omega⟩
        · rename_i h1 h2
          rw [List.length_drop] at h2
          have := ih (l.drop (p + 1)) (out ++ [lb (pres l).1]) (by rw [List.length_drop]; omega) (fun z hz => hb z (List.mem_of_mem_drop hz)) ho2
          refine ⟨this.1, Nat.le_trans this.2 ?_⟩
          rw [List.length_append, List.length_drop]
          show out.length + 1 + _ + 1 ≤ _
          omega
    · rw [if_neg h0]
      simp
theorem nsz_bd (l : List ByteArray) (h : ∀ x ∈ l, x.size ≤ 63) : nsz l ≤ 64 * l.length + 1 := by
  induction l with
  | nil => simp [nsz]
  | cons x l ih =>
    have := ih (fun y hy => h y (by simp [hy]))
    have := h x (by simp)
    simp only [nsz, List.length_cons]
    omega
theorem lgo_nsz (s : ByteArray) (hs : s.size ≤ 1000000000) : nsz (lgo (nums s) []).1 ≤ 1000000000000 := by
  have := lgo_bd _ (nums s) [] (Nat.le_refl _) (nums_all s) (by simp)
  have h2 := nsz_bd _ this.1
  rw [nums_len] at this
  simp at this
  omega
/-- What Parse answers. -/
def nparse (s : ByteArray) : List ByteArray × Int :=
  if s.toList = [46] then ([], 0)
  else if (lgo (nums s) []).2.2 = 0 then
    (if (lgo (nums s) []).2.1 then (if nck (lgo (nums s) []).1 = 0 then ((lgo (nums s) []).1, 0) else ([], nck (lgo (nums s) []).1)) else ([], 5))
  else ([], (lgo (nums s) []).2.2)
/-- What Relative answers. -/
def nrel (s : ByteArray) (og : List ByteArray) : List ByteArray × Int :=
  if nck og = 0 then
    (if s.toList = [64] then (og, 0) else if s.toList = [46] then ([], 0)
    else if (lgo (nums s) []).2.2 = 0 then (if (lgo (nums s) []).2.1 then nparse s else njoin (lgo (nums s) []).1 og) else ([], (lgo (nums s) []).2.2))
  else ([], nck og)
end Go.Proofs.Ytdeoembjfdbbkaa
/- Names out of bytes, as the document reads them. -/
namespace Go.Proofs.Ytdeoembjfdbbkaa
open Go.ChangeShapes Go.WideShapes Go.ChangeAt Go.RowKit
set_option linter.unusedVariables false
set_option linter.unusedSimpArgs false


/-- The labels from a place of bytes on, and the place behind them; none, if no name's bytes stand there. -/
def rgo (l : List Int) (p : Nat) (out : List ByteArray) : Option (List ByteArray × Nat) :=
  if h : p < l.length ∧ l.getD p 0 ≤ 63 then
    if l.getD p 0 = 0 then some (out, p + 1)
    else if (l.length : Int) - ((p : Int) + 1) < l.getD p 0 then none
    else rgo l (p + 1 + (l.getD p 0).toNat) (out ++ [lb ((l.drop (p + 1)).take (l.getD p 0).toNat)])
  else none
termination_by l.length - p
decreasing_by omega
def nread (l : List Int) (d : Int) : List ByteArray × Int × Int :=
  if d < 0 ∨ (l.length : Int) ≤ d then ([], 0, 2)
  else match rgo l d.toNat [] with
    | none => ([], 0, 8)
    | some (out, q) => if nck out = 0 then (out, (q : Int), 0) else ([], 0, 8)
theorem rgo_end (l : List Int) (p : Nat) (out : List ByteArray) (h : ¬ (p < l.length ∧ l.getD p 0 ≤ 63)) : rgo l p out = none := by rw [rgo, dif_neg h]
theorem rgo_zero (l : List Int) (p : Nat) (out : List ByteArray) (h : p < l.length ∧ l.getD p 0 ≤ 63) (h0 : l.getD p 0 = 0) : rgo l p out = some (out, p + 1) := by rw [rgo, dif_pos h, if_pos h0]
theorem rgo_short (l : List Int) (p : Nat) (out : List ByteArray) (h : p < l.length ∧ l.getD p 0 ≤ 63) (h0 : ¬ l.getD p 0 = 0) (h1 : (l.length : Int) - ((p : Int) + 1) < l.getD p 0) : rgo l p out = none := by rw [rgo, dif_pos h, if_neg h0, if_pos h1]
theorem rgo_step (l : List Int) (p : Nat) (out : List ByteArray) (h : p < l.length ∧ l.getD p 0 ≤ 63) (h0 : ¬ l.getD p 0 = 0) (h1 : ¬ (l.length : Int) - ((p : Int) + 1) < l.getD p 0) : rgo l p out = rgo l (p + 1 + (l.getD p 0).toNat) (out ++ [lb ((l.drop (p + 1)).take (l.getD p 0).toNat)]) := by
  rw [rgo, dif_pos h, if_neg h0, if_neg h1]
def RPost (r : List ByteArray × Int × Int) (w : World) (e : Ending) (w' : World) : Prop :=
  ∃ v ys, e = .returned (.tuple #[v, .int .i64 r.2.1, .int .i64 r.2.2]) ∧ Hid (OwnT w.heap.size w' v r.1.length ys 1000000000000 ∧ ys.take r.1.length = r.1 ∧ Below w.heap.size w w')
theorem rpost_none {k : Int} {w w' : World} {e : Ending} (he : e = .returned (.tuple #[.slice none 0 0, .int .i64 0, .int .i64 k])) (hb : Below w.heap.size w w') : RPost ([], 0, k) w e w' :=
  ⟨.slice none 0 0, [], he, OwnT.nil _ _ _, rfl, hb⟩
set_option maxRecDepth 100000 in
set_option maxHeartbeats 2000000 in
theorem refread_in (a : Option Addr) (len cap : Nat) (zs : List Int) (p0 : Nat) (w : World) (hr : Rd w a zs) (hl : zs.length = len) (hm : len ≤ 1000000000) (hc : len ≤ cap ∧ cap ≤ 9223372036854775807) (hp0 : p0 < len) :
    Calls Try.prog 96 #[.slice a len cap, .int .i64 p0] w (RPost (nread zs p0) w) := by
  have HR : Hid (Rd w a zs) := hr
  have HL : Hid (zs.length = len) := hl
  have HX : Hid (nread zs (p0 : Int) = match rgo zs p0 [] with
    | none => ([], 0, 8)
    | some (out, q) => if nck out = 0 then (out, (q : Int), 0) else ([], 0, 8)) := by
    show _ = _
    unfold nread
    rw [if_neg (by rw [hl]; omega), Int.toNat_natCast]
  obtain ⟨R, hR⟩ : ∃ R, nread zs (p0 : Int) = R := ⟨_, rfl⟩
  rw [hR] at HX ⊢
  have h1 : ¬ (p0 : Int) < 0 := by omega
  have h2 : ¬ (len : Int) ≤ (p0 : Int) := by omega
  clear hr hl hR
  go_enter Try.func96, Try.ntmps96
  go_wp2_with fail
  go_loopw [1, 7] (fun x v wr => ∃ (p : Nat) (out : List ByteArray), p ≤ len ∧ x = .int .i64 p ∧ out.length ≤ p ∧ Hid (rgo zs p0 [] = rgo zs p out) ∧ Hid (∀ s ∈ out, s.size ≤ 63) ∧ Hid (∃ ys, OwnT w.heap.size wr v out.length ys 1000000000000 ∧ ys.take out.length = out) ∧ Hid (Below w.heap.size w wr)) (fun x _ _ => len - (intOf x).toNat)
  case atStart => exact ⟨p0, [], by omega, rfl, Nat.zero_le _, rfl, (fun s hs => by cases hs), ⟨[], OwnT.nil _ _ _, rfl⟩, Below.refl _ _⟩
  case round =>
    obtain ⟨p, out, hp, rfl, hol, HG, HS, HW, HB⟩ := hrel
    by_cases hlt : p < len
    · have hlt' : (p : Int) < (len : Int) := by omega
      have HRw : Hid (Rd wr a zs) := HR.out.below HB.out
      rcases HRw.out.1 with e1 | ⟨b, o, rfl, e1, e2⟩
      · have := HL.out; subst e1; simp at this; omega
      have hcell := e2 p (by rw [HL.out]; exact hlt)
      have hbd := HRw.out.bd p
      have g1 : Hid (¬ zs.getD p 0 ≤ 63 → rgo zs p0 [] = none) := fun h => HG.out.trans (rgo_end _ _ _ (fun h2 => h h2.2))
      have g2 : Hid (zs.getD p 0 = 0 → rgo zs p0 [] = some (out, p + 1)) := fun h => HG.out.trans (rgo_zero _ _ _ ⟨by rw [HL.out]; exact hlt, by omega⟩ h)
      have g3 : Hid (zs.getD p 0 ≤ 63 → ¬ zs.getD p 0 = 0 → (len : Int) - ((p : Int) + 1) < zs.getD p 0 → rgo zs p0 [] = none) := fun h h' h'' => HG.out.trans (rgo_short _ _ _ ⟨by rw [HL.out]; exact hlt, h⟩ h' (by rw [HL.out]; exact h''))
      have g4 : Hid (zs.getD p 0 ≤ 63 → ¬ zs.getD p 0 = 0 → ¬ (len : Int) - ((p : Int) + 1) < zs.getD p 0 → rgo zs p0 [] = rgo zs (p + 1 + (zs.getD p 0).toNat) (out ++ [lb ((zs.drop (p + 1)).take (zs.getD p 0).toNat)])) := fun h h' h'' => HG.out.trans (rgo_step _ _ _ ⟨by rw [HL.out]; exact hlt, h⟩ h' (by rw [HL.out]; exact h''))
      clear HG e2
      obtain ⟨c, hcc⟩ : ∃ c, zs.getD p 0 = c := ⟨_, rfl⟩
      rw [hcc] at hcell hbd g1 g2 g3 g4
      clear hcc
      by_cases c63 : c ≤ 63
      · by_cases c0 : c = 0
        · have e := g2.out c0
          subst c0
          have HN : Hid (nsz out ≤ 1000000000000) := by have := nsz_bd out HS.out; show _ ≤ _; omega
          have HE : Hid (R = if nck out = 0 then (out, ((p + 1 : Nat) : Int), 0) else ([], 0, 8)) := by have := HX.out; rw [e] at this; exact this
          clear e g1 g2 g3 g4
          obtain ⟨ys, hO, hT⟩ := HW.out
          obtain ⟨ao, hv, hao⟩ := hO.shape
          subst hv
          have hnm : Nm wr ao out.length out := ⟨by have := hO.rd out.length; rw [hT] at this; exact this, rfl, HN.out⟩
          have KC : Hid (Calls Try.prog 58 #[.slice ao out.length ys.length] wr fun e w' => e = .returned (.int .i64 (nck out)) ∧ w' = wr) := nm_check ys.length hnm
          have HF : Hid (OwnT w.heap.size wr (.slice ao out.length ys.length) out.length ys 1000000000000 ∧ ys.take out.length = out ∧ Below w.heap.size w wr) := ⟨hO, hT, HB.out⟩
          clear hnm hO hT
          by_cases hk : nck out = 0
          · rw [hk] at KC
            have e := HE.out
            rw [if_pos hk] at e
            subst e
            clear HE hk HX
            go_wp2_with fail
            refine KC.out.mono ?_
            rintro e w1 ⟨rfl, rfl⟩
            go_wp2
            go_ret3
            exact ⟨_, ys, rfl, HF⟩
          · have e := HE.out
            rw [if_neg hk] at e
            subst e
            generalize nck out = q at *
            have hq : (q != 0) = true := bne_iff_ne.2 hk
            clear HE hk HX
            go_wp2_with fail
            refine KC.out.mono ?_
            rintro e w1 ⟨rfl, rfl⟩
            go_wp2
            go_ret3
            exact rpost_none rfl HB.out
        · have c0' : (c == 0) = false := by simp [c0]
          by_cases cs : (len : Int) - ((p : Int) + 1) < c
          · have e : R = ([], 0, 8) := by have := HX.out; rw [g3.out c63 c0 cs] at this; exact this
            subst e
            clear HX g1 g2 g3 g4 HW
            go_wp2
            go_ret3
            exact rpost_none rfl HB.out
          · have HG2 := g4.out c63 c0 cs
            obtain ⟨k, hk⟩ : ∃ k : Nat, c = (k : Int) := ⟨c.toNat, by omega⟩
            subst hk
            rw [Int.toNat_natCast] at HG2
            have hk1 : 1 ≤ k := by omega
            have hk2 : p + 1 + k ≤ len := by omega
            have hk3 : k ≤ 63 := by omega
            have hsub : ((zs.drop (p + 1)).take k).length = k := by rw [List.length_take, List.length_drop, HL.out]; omega
            have hrd : Rd wr (some ⟨b, o + (p + 1), none⟩) ((zs.drop (p + 1)).take k) := HRw.out.cut (p + 1) k (by rw [HL.out]; omega) (fun _ b' o' e => by cases e; rfl)
            have hcv := fun cc => conv_rd (some ⟨b, o + (p + 1), none⟩) k cc ((zs.drop (p + 1)).take k) wr hrd hsub
            have hls : (lb ((zs.drop (p + 1)).take k)).size ≤ 63 := by rw [lb_size, hsub]; exact hk3
            have HG3 : Hid (rgo zs p0 [] = rgo zs (p + 1 + k) (out ++ [lb ((zs.drop (p + 1)).take k)])) := HG2
            have hcv2 : ∀ cc, (convert 27 9 (.slice (some ⟨b, o + (p + 1), none⟩) k cc)).run Try.prog wr = .ok (.string (lb ((zs.drop (p + 1)).take k))) wr := hcv
            clear hcv hrd hsub HG2 g1 g2 g3 g4
            generalize lb ((zs.drop (p + 1)).take k) = f at *
            obtain ⟨ys, hO, hT⟩ := HW.out
            have hnb : Below wr.heap.size wr (wr.alloc (.cells #[.string f] 9)) := (Below.refl _ _).alloc (Nat.le_refl _) _
            have HO2 : Hid (OwnT w.heap.size (wr.alloc (.cells #[.string f] 9)) u7 out.length ys 1000000000000 ∧ ys.take out.length = out) := ⟨hO.below hnb, hT⟩
            have HNB : Hid (Below wr.heap.size wr (wr.alloc (.cells #[.string f] 9))) := hnb
            have hcv3 := hcv2 (cap - (p + 1))
            clear hO hT hnb hcv2
            have hpc : (p : Int) + 1 + (k : Int) ≤ (cap : Int) := by omega
            have hpa : ¬ cap - (p + 1) = 0 := by omega
            have hpb : ¬ (p + 1) = cap := by omega
            go_wp2_with (at_builtin; refine wpList_append_T tyN _ rfl _ _ 53 9 Try.underlying53 rfl w.heap.size _ out.length ys 1000000000000 rfl HO2.out.1 (some ⟨wr.heap.size, 0, none⟩) 1 1 [f] rfl (one_rdT wr f) rfl (by intro s hs; simp at hs; subst hs; omega) (by omega) (Nat.le_trans HB.out.size HNB.out.size) ?_; intro v' w' ys' hO' hT' hG'; have HB2 : Hid (Below w.heap.size w w') := ((HB.out.trans (HNB.out.mono HB.out.size)).grown hG' (Nat.le_trans HB.out.size HNB.out.size) HO2.out.1.1.lt); clear hG')
            refine ⟨⟨p + 1 + k, out ++ [f], hk2, by go_num, by rw [List.length_append]; show out.length + 1 ≤ _; omega, HG3, ?_, ⟨ys', ?_, ?_⟩, HB2⟩, by simp [intOf]; omega⟩
            · intro s hs
              rcases List.mem_append.1 hs with hs | hs
              · exact HS.out s hs
              · simp at hs; subst hs; exact hls
            · rw [List.length_append]; exact hO'.out
            · rw [List.length_append]; exact hT'.out.trans (by rw [HO2.out.2])
      · have e : R = ([], 0, 8) := by have := HX.out; rw [g1.out c63] at this; exact this
        subst e
        have c63' : 63 < c := by omega
        clear HX g1 g2 g3 g4 HW c63
        go_wp2
        go_ret3
        exact rpost_none rfl HB.out
    · have e : R = ([], 0, 8) := by
        have := HX.out
        rw [HG.out, rgo_end _ _ _ (fun h => hlt (by have := h.1; rw [HL.out] at this; exact this))] at this
        exact this
      subst e
      have hge : (len : Int) ≤ (p : Int) := by omega
      clear HX HG
      go_wp2
      go_ret3
      exact rpost_none rfl HB.out
set_option maxRecDepth 100000 in
set_option maxHeartbeats 2000000 in
theorem refread_any (a : Option Addr) (len cap : Nat) (zs : List Int) (d : Int) (w : World) (hr : Rd w a zs) (hl : zs.length = len) (hm : len ≤ 1000000000) (hc : len ≤ cap ∧ cap ≤ 9223372036854775807) :
    Calls Try.prog 96 #[.slice a len cap, .int .i64 d] w (RPost (nread zs d) w) := by
  by_cases hd : d < 0 ∨ (len : Int) ≤ d
  · have hp : nread zs d = ([], 0, 2) := by unfold nread; rw [if_pos (by rw [hl]; exact hd)]
    rw [hp]
    have hd' : d < 0 ∨ (¬ d < 0 ∧ (len : Int) ≤ d) := by omega
    clear hp hd hr
    rcases hd' with hd | ⟨hd, hd2⟩
    all_goals
      go_enter Try.func96, Try.ntmps96
      go_wp2
      go_ret3
      exact rpost_none rfl (Below.refl _ _)
  · obtain ⟨p, rfl⟩ : ∃ p : Nat, d = (p : Int) := ⟨d.toNat, by omega⟩
    exact refread_in a len cap zs p w hr hl hm hc (by omega)
end Go.Proofs.Ytdeoembjfdbbkaa
/- A label's text is read as the label. -/
namespace Go.Proofs.Ytdeoembjfdbbkaa
open Go.ChangeShapes Go.WideShapes Go.ChangeAt Go.RowKit
set_option linter.unusedVariables false
set_option linter.unusedSimpArgs false


theorem fr_tx1 (c : Int) (h : 0 ≤ c ∧ c ≤ 255) (r : List Int) : fr (tx1 c ++ r) = (c, ((tx1 c).length : Int)) := by
  unfold tx1
  by_cases hu : c < 33 ∨ 126 < c
  · rw [if_pos hu]
    have hv : v3 (48 + c / 100) (48 + c / 10 % 10) (48 + c % 10) = c := by unfold v3; omega
    have d1 : dgt (48 + c / 100) = true := (dgt_iff _).2 (by omega)
    have d2 : dgt (48 + c / 10 % 10) = true := (dgt_iff _).2 (by omega)
    have d3 : dgt (48 + c % 10) = true := (dgt_iff _).2 (by omega)
    have hd : decide (c ≤ 255) = true := by simp [h.2]
    simp [fr, esc, num3, vis, d1, d2, d3, hv, h.2]
  · rw [if_neg hu]
    rcases spc_cases c with hs | ⟨hs, e1, e2, _⟩
    · rcases hs with rfl | rfl | rfl | rfl | rfl | rfl | rfl | rfl <;> simp [fr, esc, spc, vis, dgt]
    · rw [hs]
      have hv : vis c = true := (vis_iff c).2 (by omega)
      have e2' : ¬ c = 92 := by simpa using e2
      simp [fr, hv, e2']
theorem head_tx1 (c : Int) (h : 0 ≤ c ∧ c ≤ 255) (r : List Int) : (tx1 c ++ r).getD 0 0 ≠ 46 := by
  unfold tx1
  by_cases hu : c < 33 ∨ 126 < c
  · rw [if_pos hu]; simp
  · rw [if_neg hu]
    rcases spc_cases c with hs | ⟨hs, e1, e2, _⟩
    · rcases hs with rfl | rfl | rfl | rfl | rfl | rfl | rfl | rfl <;> simp [spc]
    · rw [hs]; simpa using e1
theorem go_tx (l : List Int) : ∀ (P out R : List Int), (∀ z ∈ l, 0 ≤ z ∧ z ≤ 255) → (R = [] ∨ ∃ r, R = 46 :: r) → go (P ++ (tx l ++ R)) P.length out = some (out ++ l, P.length + (tx l).length) := by
  induction l with
  | nil =>
    intro P out R _ hR
    rw [go_stop]
    · simp [tx]
    · rcases hR with rfl | ⟨r, rfl⟩
      · simp [tx]
      · simp [tx, List.getD_eq_getElem?_getD]
  | cons c l ih =>
    intro P out R hb hR
    have hc := hb c (by simp)
    have e : tx (c :: l) ++ R = tx1 c ++ (tx l ++ R) := by simp [tx]
    have hd : (P ++ (tx1 c ++ (tx l ++ R))).drop P.length = tx1 c ++ (tx l ++ R) := by simp
    have hf := fr_tx1 c hc (tx l ++ R)
    have hlen := tx1_len c
    rw [e, go_step]
    · rw [hd, hf]
      have := ih (P ++ tx1 c) (out ++ [c]) R (fun z hz => hb z (by simp [hz])) hR
      simp only [Int.toNat_natCast]
      rw [List.append_assoc, List.length_append] at this
      rw [this]
      simp [tx]
      omega
    · refine ⟨by simp only [List.length_append]; omega, ?_⟩
      have := head_tx1 c hc (tx l ++ R)
      rw [← hd, show ((P ++ (tx1 c ++ (tx l ++ R))).drop P.length).getD 0 0 = (P ++ (tx1 c ++ (tx l ++ R))).getD P.length 0 by rw [List.getD_eq_getElem?_getD, List.getD_eq_getElem?_getD, List.getElem?_drop, Nat.add_zero]] at this
      exact this
    · rw [hd, hf]; simp only; omega
theorem pres_tx (l R : List Int) (hb : ∀ z ∈ l, 0 ≤ z ∧ z ≤ 255) (hR : R = [] ∨ ∃ r, R = 46 :: r) (hl : 1 ≤ l.length ∧ l.length ≤ 63) : pres (tx l ++ R) = (l, ((tx l).length : Int), 0) := by
  have := go_tx l [] [] R hb hR
  simp only [List.nil_append, List.length_nil, Nat.zero_add] at this
  exact pres_ok this (by unfold chk; rw [if_pos hl])
theorem pres_a : pres [97, 92] = ([], 0, 120) := by
  apply pres_bad
  rw [go_step _ _ _ (by decide) (by decide)]
  exact go_bad _ _ _ (by decide) (by decide)
theorem nums_cat (a b : ByteArray) : nums (a ++ b) = nums a ++ nums b := by
  simp [nums]
theorem nums_back (l : List Int) (h : ∀ z ∈ l, 0 ≤ z ∧ z ≤ 255) : nums ⟨(txt l).toArray⟩ = l := by
  unfold nums txt
  simp only [List.map_map]
  conv => rhs; rw [← List.map_id l]
  apply List.map_congr_left
  intro z hz
  have := h z hz
  simp
  omega
theorem txt_back (s : ByteArray) : (⟨(txt (nums s)).toArray⟩ : ByteArray) = s := by
  have : txt (nums s) = s.data.toList := by
    unfold nums txt
    rw [List.map_map]
    conv => rhs; rw [← List.map_id s.data.toList]
    apply List.map_congr_left
    intro b _
    simp
  rw [this]
end Go.Proofs.Ytdeoembjfdbbkaa
/- What follows of names: what was written is read so; the order is one. -/
namespace Go.Proofs.Ytdeoembjfdbbkaa
open Go.ChangeShapes Go.WideShapes Go.ChangeAt Go.RowKit
set_option linter.unusedVariables false
set_option linter.unusedSimpArgs false


/-- The text of labels, as numbers. -/
def flat (l : List ByteArray) : List Int := l.flatMap fun s => tx (nums s) ++ [46]
theorem nums_tb (s : ByteArray) : nums (tb s) = tx (nums s) := nums_back _ (tx_bd _ (nums_all s))
theorem nums_ntxt (l : List ByteArray) : nums (ntxt l) = flat l := by
  have : ∀ (l : List ByteArray) (acc : ByteArray), nums (l.foldl (fun acc s => acc ++ tb s ++ ⟨#[46]⟩) acc) = nums acc ++ flat l := by
    intro l
    induction l with
    | nil => intro acc; simp [flat]
    | cons s l ih =>
      intro acc
      rw [List.foldl_cons, ih, nums_cat, nums_cat, nums_tb]
      simp [flat]
      rfl
  have h := this l ⟨#[]⟩
  rw [show nums ⟨#[]⟩ = [] from rfl, List.nil_append] at h
  exact h
theorem chk_ok {n : Nat} (h : chk n = 0) : 1 ≤ n ∧ n ≤ 63 := by
  unfold chk at h
  split at h
  · assumption
  · cases h
theorem lgo_flat : ∀ (ss : List ByteArray) (out : List ByteArray), ss ≠ [] → labsOk ss → lgo (flat ss) out = (out ++ ss, true, 0)
  | [], _, h, _ => absurd rfl h
  | s :: r, out, _, hok => by
    have hs := chk_ok (hok s (by simp))
    have hf : flat (s :: r) = tx (nums s) ++ (46 :: flat r) := by simp [flat]
    have hp := pres_tx (nums s) (46 :: flat r) (nums_all s) (.inr ⟨_, rfl⟩) (by rw [nums_len]; exact hs)
    rw [← hf] at hp
    have hd : (flat (s :: r)).drop ((tx (nums s)).length + 1) = flat r := by
      rw [hf, List.drop_append, List.drop_eq_nil_of_le (by omega), Nat.add_sub_cancel_left]; rfl
    rw [lgo, hp]
    have hlb : lb (nums s) = s := txt_back s
    simp only [if_true, Int.toNat_natCast, hd, hlb]
    rw [if_neg (by rw [hf, List.length_append]; simp; omega)]
    by_cases hr : r = []
    · subst hr
      rw [dif_pos (by simp [flat])]
    · have hne : ¬ (flat r).length = 0 := by
        obtain ⟨x, r', rfl⟩ := List.exists_cons_of_ne_nil hr
        simp [flat]
      rw [dif_neg hne, lgo_flat r (out ++ [s]) hr (fun x hx => hok x (by simp [hx]))]
      simp
theorem ba_list (s : ByteArray) : (nums s) = s.toList.map fun b => (b.toNat : Int) := by rw [ba_toList]; rfl
theorem flat_two (ss : List ByteArray) (h : ss ≠ []) (hok : labsOk ss) : 2 ≤ (flat ss).length := by
  obtain ⟨s, r, rfl⟩ := List.exists_cons_of_ne_nil h
  have hs := chk_ok (hok s (by simp))
  have hne : nums s ≠ [] := fun e => by have := nums_len s; rw [e] at this; simp at this; omega
  obtain ⟨c, l, hcl⟩ := List.exists_cons_of_ne_nil hne
  have h1 := tx1_len c
  have : 1 ≤ (tx (nums s)).length := by rw [hcl]; simp only [tx, List.flatMap_cons, List.length_append]; omega
  simp only [flat, List.flatMap_cons, List.length_append, List.length_cons, List.length_nil]
  omega
theorem ntxt_not (ss : List ByteArray) (h : ss ≠ []) (hok : labsOk ss) (x : UInt8) : ¬ (ntxt ss).toList = [x] := by
  intro e
  have h1 := flat_two ss h hok
  have h2 := nums_ntxt ss
  rw [ba_list, e] at h2
  have := congrArg List.length h2
  simp at this
  omega
/-- A name's text is read as the name. -/
theorem parse_text (ss : List ByteArray) (h : nck ss = 0) : nparse (ntext ss).1 = (ss, 0) := by
  have hok := (nck_small h).2
  unfold ntext
  rw [if_pos h]
  by_cases h0 : ss = []
  · subst h0
    rw [if_pos (show ([] : List ByteArray).length = 0 from rfl)]
    unfold nparse
    rw [if_pos (by rw [ba_toList])]
  · have hl : ¬ ss.length = 0 := fun e => h0 (List.eq_nil_of_length_eq_zero e)
    rw [if_neg hl]
    unfold nparse
    rw [if_neg (ntxt_not ss h0 hok 46)]
    simp only [nums_ntxt, lgo_flat ss [] h0 hok, List.nil_append, if_true, h]
theorem rel_text (ss og : List ByteArray) (h : nck ss = 0) (hg : nck og = 0) : nrel (ntext ss).1 og = (ss, 0) := by
  have hok := (nck_small h).2
  have hp := parse_text ss h
  unfold nrel
  rw [if_pos hg]
  unfold ntext at hp ⊢
  rw [if_pos h] at hp ⊢
  by_cases h0 : ss = []
  · subst h0
    rw [if_pos (show ([] : List ByteArray).length = 0 from rfl)]
    simp only
    rw [if_neg (by rw [ba_toList]; decide), if_pos (by rw [ba_toList])]
  · have hl : ¬ ss.length = 0 := fun e => h0 (List.eq_nil_of_length_eq_zero e)
    rw [if_neg hl] at hp ⊢
    simp only at hp ⊢
    rw [if_neg (ntxt_not ss h0 hok 64), if_neg (ntxt_not ss h0 hok 46)]
    simp only [nums_ntxt, lgo_flat ss [] h0 hok, if_true, hp]
theorem rgo_nby : ∀ (ss : List ByteArray) (P R : List Int) (out : List ByteArray), labsOk ss → rgo (P ++ (nby ss ++ (0 :: R))) P.length out = some (out ++ ss, P.length + (nby ss).length + 1)
  | [], P, R, out, _ => by
    rw [rgo_zero]
    · simp [nby]
    · simp [nby, List.getD_eq_getElem?_getD]
    · simp [nby, List.getD_eq_getElem?_getD]
  | s :: r, P, R, out, hok => by
    have hs := chk_ok (hok s (by simp))
    have hf : nby (s :: r) ++ (0 :: R) = (s.size : Int) :: (nums s ++ (nby r ++ (0 :: R))) := by simp [nby]
    have hg : (P ++ (nby (s :: r) ++ (0 :: R))).getD P.length 0 = (s.size : Int) := by
      rw [hf]; simp [List.getD_eq_getElem?_getD]
    have hlen : (P ++ (nby (s :: r) ++ (0 :: R))).length = P.length + (1 + (s.size + ((nby r).length + (1 + R.length)))) := by
      rw [hf]; simp [nums_len]; omega
    have hd : ((P ++ (nby (s :: r) ++ (0 :: R))).drop (P.length + 1)).take s.size = nums s := by
      rw [hf, List.drop_append, List.drop_eq_nil_of_le (by omega), Nat.add_sub_cancel_left, List.nil_append]
      show (nums s ++ _).take s.size = nums s
      rw [List.take_append_of_le_length (by rw [nums_len]; exact Nat.le_refl _), List.take_of_length_le (by rw [nums_len]; exact Nat.le_refl _)]
    have hlb : lb (nums s) = s := txt_back s
    rw [rgo_step _ _ _ ⟨by rw [hlen]; omega, by rw [hg]; omega⟩ (by rw [hg]; omega) (by rw [hg, hlen]; omega)]
    rw [hg, Int.toNat_natCast, hd, hlb]
    have ih := rgo_nby r (P ++ ((s.size : Int) :: nums s)) R (out ++ [s]) (fun x hx => hok x (by simp [hx]))
    have e1 : P ++ (nby (s :: r) ++ (0 :: R)) = P ++ ((s.size : Int) :: nums s) ++ (nby r ++ (0 :: R)) := by rw [hf]; simp
    have e2 : (P ++ ((s.size : Int) :: nums s)).length = P.length + 1 + s.size := by simp [nums_len]; omega
    rw [e2] at ih
    rw [e1, ih]
    simp [nby, nums_len]
    omega
/-- A name's bytes are read as the name, whatever stands behind. -/
theorem read_bytes (ss : List ByteArray) (R : List Int) (h : nck ss = 0) : nread ((nbytes ss).1 ++ R) 0 = (ss, (nsz ss : Int), 0) := by
  have hok := (nck_small h).2
  unfold nbytes
  rw [if_pos h]
  unfold nread
  rw [if_neg (by simp; omega)]
  have := rgo_nby ss [] R [] hok
  simp only [List.nil_append, List.length_nil, Nat.zero_add] at this
  have e : nby ss ++ [0] ++ R = nby ss ++ (0 :: R) := by simp
  simp only [e, show (0 : Int).toNat = 0 from rfl, this, h, if_true]
  have := nby_len ss
  simp
  omega
theorem cmp_neg (x y : ByteArray) : cmp y x = - cmp x y := cb_neg _ _
theorem cmp_refl (x : ByteArray) : cmp x x = 0 := cb_refl _
theorem cmp_range (x y : ByteArray) : cmp x y = -1 ∨ cmp x y = 0 ∨ cmp x y = 1 := cb_range _ _
theorem cmp_trans (x y z : ByteArray) (h1 : cmp x y ≤ 0) (h2 : cmp y z ≤ 0) : cmp x z ≤ 0 := cb_trans _ _ _ h1 h2
theorem cmp_left (x y z : ByteArray) (h : cmp x y = 0) : cmp x z = cmp y z := by
  have := cb_zero _ _ h
  unfold cmp at *
  rw [this]
theorem cmp_right (x y z : ByteArray) (h : cmp x y = 0) : cmp z x = cmp z y := by
  have := cb_zero _ _ h
  unfold cmp at *
  rw [this]
theorem cmpR_neg : ∀ a b : List ByteArray, cmpR b a = - cmpR a b
  | [], [] => rfl
  | [], _ :: _ => rfl
  | _ :: _, [] => rfl
  | x :: a, y :: b => by
    unfold cmpR
    have h := cmp_neg x y
    by_cases h0 : cmp x y = 0
    · rw [if_pos h0, if_pos (by omega), cmpR_neg a b]
    · rw [if_neg h0, if_neg (by omega), h]
theorem cmpR_range : ∀ a b : List ByteArray, cmpR a b = -1 ∨ cmpR a b = 0 ∨ cmpR a b = 1
  | [], [] => .inr (.inl rfl)
  | [], _ :: _ => .inl rfl
  | _ :: _, [] => .inr (.inr rfl)
  | x :: a, y :: b => by
    unfold cmpR
    split
    · exact cmpR_range a b
    · exact cmp_range x y
theorem cmpR_trans : ∀ a b c : List ByteArray, cmpR a b ≤ 0 → cmpR b c ≤ 0 → cmpR a c ≤ 0
  | [], _, [] => fun _ _ => by decide
  | [], _, _ :: _ => fun _ _ => by simp [cmpR]
  | _ :: _, [], _ => fun h _ => by simp [cmpR] at h
  | x :: a, y :: b, [] => fun _ h => by simp [cmpR] at h
  | x :: a, y :: b, z :: c => fun h1 h2 => by
    unfold cmpR at h1 h2 ⊢
    by_cases e1 : cmp x y = 0
    · rw [if_pos e1] at h1
      rw [cmp_left x y z e1]
      by_cases e2 : cmp y z = 0
      · rw [if_pos e2] at h2 ⊢
        exact cmpR_trans a b c h1 h2
      · rw [if_neg e2] at h2 ⊢
        exact h2
    · rw [if_neg e1] at h1
      by_cases e2 : cmp y z = 0
      · rw [← cmp_right y z x e2, if_neg e1]
        exact h1
      · rw [if_neg e2] at h2
        have h3 := cmp_trans x y z h1 h2
        by_cases e3 : cmp x z = 0
        · exfalso
          have h4 : cmp x y = cmp z y := cmp_left x z y e3
          have h5 := cmp_neg y z
          omega
        · rw [if_neg e3]; exact h3
theorem comR_same : ∀ a b : List ByteArray, cmpR a b = 0 ↔ (a.length = b.length ∧ comR a b = a.length)
  | [], [] => by simp [cmpR, comR]
  | [], _ :: _ => by simp [cmpR]
  | _ :: _, [] => by simp [cmpR]
  | x :: a, y :: b => by
    unfold cmpR comR
    by_cases h : cmp x y = 0
    · rw [if_pos h, if_pos h, comR_same a b]
      simp
    · rw [if_neg h, if_neg h]
      simp [h]
/-- What is at or under a name is not ahead of it; what stands between is under it, too. -/
theorem under_le : ∀ a b : List ByteArray, comR b a = a.length → cmpR a b ≤ 0
  | [], [], _ => by decide
  | [], _ :: _, _ => by simp [cmpR]
  | _ :: _, [], h => by simp [comR] at h
  | x :: a, y :: b, h => by
    unfold comR at h
    unfold cmpR
    by_cases e : cmp y x = 0
    · rw [if_pos e] at h
      have e' : cmp x y = 0 := by have := cmp_neg y x; omega
      rw [if_pos e']
      exact under_le a b (by simpa using h)
    · rw [if_neg e] at h
      simp at h
theorem under_mid : ∀ a b c : List ByteArray, cmpR a b ≤ 0 → cmpR b c ≤ 0 → comR c a = a.length → comR b a = a.length
  | [], b, _, _, _, _ => by cases b <;> simp [comR]
  | _ :: _, [], _, h, _, _ => by simp [cmpR] at h
  | _ :: _, _ :: _, [], _, h, _ => by simp [cmpR] at h
  | x :: a, y :: b, z :: c, h1, h2, h3 => by
    unfold comR at h3 ⊢
    unfold cmpR at h1 h2
    by_cases e : cmp z x = 0
    · rw [if_pos e] at h3
      have hzx : cmp x z = 0 := by have := cmp_neg z x; omega
      by_cases e1 : cmp x y = 0
      · have e1' : cmp y x = 0 := by have := cmp_neg x y; omega
        rw [if_pos e1] at h1
        have e2 : cmp y z = 0 := by rw [← cmp_left x y z e1]; exact hzx
        rw [if_pos e2] at h2
        rw [if_pos e1']
        simpa using under_mid a b c h1 h2 (by simpa using h3)
      · rw [if_neg e1] at h1
        exfalso
        have h4 : cmp y z = cmp y x := (cmp_right x z y hzx).symm
        have h5 := cmp_neg x y
        have h6 : ¬ cmp y z = 0 := by omega
        rw [if_neg h6] at h2
        omega
    · rw [if_neg e] at h3
      simp at h3
theorem comR_pre : ∀ p q : List ByteArray, comR (p ++ q) p = p.length
  | [], q => by cases q <;> simp [comR]
  | x :: p, q => by
    rw [List.cons_append]
    unfold comR
    rw [if_pos (cmp_refl x), comR_pre p q]
    rfl
theorem under_drop (ss : List ByteArray) (k : Nat) : nunder ss (ss.drop k) = true := by
  unfold nunder ncom
  have e : ss.reverse = (ss.drop k).reverse ++ (ss.take k).reverse := by rw [← List.reverse_append, List.take_append_drop]
  rw [e, comR_pre]
  simp
theorem nck_of {ss : List ByteArray} (h1 : nsz ss ≤ 255) (h2 : labsOk ss) : nck ss = 0 := by
  unfold nck
  rw [if_pos h2, if_neg (by omega)]
theorem nck_take (ss : List ByteArray) (k : Nat) (h : nck ss = 0) : nck (ss.take k) = 0 := by
  have := nck_small h
  exact nck_of (Nat.le_trans (nsz_le ss k) this.1) (fun s hs => this.2 s (List.mem_of_mem_take hs))
theorem nck_drop (ss : List ByteArray) (k : Nat) (h : nck ss = 0) : nck (ss.drop k) = 0 := by
  have := nck_small h
  exact nck_of (Nat.le_trans (nsz_drop ss k) this.1) (fun s hs => this.2 s (List.mem_of_mem_drop hs))
/-- A name is its first labels and its last ones, joined. -/
theorem join_parts (ss : List ByteArray) (k : Nat) (h : nck ss = 0) : njoin (ss.take k) (ss.drop k) = (ss, 0) := by
  unfold njoin
  rw [if_pos (nck_take ss k h), if_pos (nck_drop ss k h), List.take_append_drop, if_pos h]
theorem wild_ok (ss : List ByteArray) (h : nck ss = 0) : njoin [⟨#[42]⟩] ss = if nsz ss ≤ 253 then (⟨#[42]⟩ :: ss, 0) else ([], 5) := by
  have h1 : nck [⟨#[42]⟩] = 0 := by decide
  have hs := nck_small h
  have hz : nsz (⟨#[42]⟩ :: ss) = 2 + nsz ss := rfl
  unfold njoin
  rw [if_pos h1, if_pos h]
  show (if nck (⟨#[42]⟩ :: ss) = 0 then _ else _) = _
  have hok : labsOk (⟨#[42]⟩ :: ss) := by
    intro s hs2
    rcases List.mem_cons.1 hs2 with rfl | hs2
    · decide
    · exact hs.2 s hs2
  by_cases hl : nsz ss ≤ 253
  · rw [if_pos hl, if_pos (nck_of (by omega) hok)]
    rfl
  · rw [if_neg hl, if_neg]
    unfold nck
    rw [if_pos hok, if_pos (by omega)]
    decide
end Go.Proofs.Ytdeoembjfdbbkaa
/- Data by type: what they are, their bytes, and what is read of bytes. No text of the program is used here. -/
namespace Go.Proofs.Ytdeoembjfdbbkaa
open Go.ChangeShapes Go.WideShapes Go.ChangeAt Go.RowKit
set_option linter.unusedVariables false
set_option linter.unusedSimpArgs false


/-- Data: names, numbers, texts, bytes. -/
structure Dat where
  ns : List (List ByteArray)
  us : List Nat
  ts : List ByteArray
  raw : List Int
/-- What data of a type have: names, numbers, texts (-1: one or more), bytes (-1: any), a number's bytes. -/
structure Shp where
  nn : Nat
  nu : Nat
  nt : Int
  nr : Int
  wd : Nat
def shp (t : Nat) : Shp :=
  if t = 1 then ⟨0, 0, 0, 4, 0⟩ else if t = 28 then ⟨0, 0, 0, 16, 0⟩ else if t = 2 ∨ t = 5 ∨ t = 12 then ⟨1, 0, 0, 0, 0⟩ else if t = 6 then ⟨2, 5, 0, 0, 4⟩ else
  if t = 15 then ⟨1, 1, 0, 0, 2⟩ else if t = 33 then ⟨1, 3, 0, 0, 2⟩ else if t = 16 then ⟨0, 0, -1, 0, 0⟩ else if t = 257 then ⟨0, 1, 2, 0, 1⟩ else ⟨0, 0, 0, -1, 0⟩
def mayT (t : Nat) : Bool := decide (t ≠ 0) && (decide (t < 128) || decide (255 < t))
def most (wd : Nat) : Nat := if wd = 1 then 255 else if wd = 2 then 65535 else 4294967295
def alnum (z : Int) : Bool := (decide (97 ≤ z) && decide (z ≤ 122)) || (decide (65 ≤ z) && decide (z ≤ 90)) || (decide (48 ≤ z) && decide (z ≤ 57))
def tagB (s : ByteArray) : Bool := decide (1 ≤ s.size) && decide (s.size ≤ 15) && (nums s).all alnum
def fitsB (t : Nat) (d : Dat) : Bool :=
  decide (d.ns.length = (shp t).nn) && decide (d.us.length = (shp t).nu) && (decide ((shp t).nt < 0) || decide ((d.ts.length : Int) = (shp t).nt)) && (decide (0 ≤ (shp t).nt) || decide (d.ts.length ≠ 0)) &&
  (decide ((shp t).nr < 0) || decide ((d.raw.length : Int) = (shp t).nr)) && d.us.all (fun n => decide (n ≤ most (shp t).wd)) && (decide (t ≠ 16) || d.ts.all (fun s => decide (s.size ≤ 255))) && (decide (t ≠ 257) || tagB (d.ts.getD 0 ⟨#[]⟩))
/-- How many bytes texts have, with their lengths. -/
def tsz (t : Nat) (l : List ByteArray) : Nat := if t = 16 then (nby l).length else (match l with | [] => 0 | s :: r => s.size + 1 + (r.flatMap nums).length)
def sizesF (t : Nat) (d : Dat) : Nat := d.raw.length + d.us.length * (shp t).wd + (d.ns.map nsz).sum + tsz t d.ts
/-- The first error of names. -/
def nsErr : List (List ByteArray) → Int
  | [] => 0
  | n :: r => if nck n = 0 then nsErr r else nck n
def checkF (t : Nat) (d : Dat) : Int := if mayT t then (if fitsB t d then (if nsErr d.ns = 0 then (if 65535 < sizesF t d then 3 else 0) else nsErr d.ns) else 7) else 6
/-- A number in so many bytes. -/
def numB (n wd : Nat) : List Int := if wd = 1 then [(n : Int)] else if wd = 2 then [((n / 256 : Nat) : Int), ((n % 256 : Nat) : Int)] else [((n / 16777216 : Nat) : Int), ((n / 65536 % 256 : Nat) : Int), ((n / 256 % 256 : Nat) : Int), ((n % 256 : Nat) : Int)]
/-- A name's bytes. -/
def nmB (n : List ByteArray) : List Int := nby n ++ [0]
def tsB (t : Nat) (l : List ByteArray) : List Int := if t = 16 then nby l else (match l with | [] => [] | s :: r => ((s.size : Int) :: nums s) ++ r.flatMap nums)
def writeF (t : Nat) (d : Dat) : List Int := if t = 6 then d.ns.flatMap nmB ++ d.us.flatMap (fun n => numB n 4) else d.us.flatMap (fun n => numB n (shp t).wd) ++ d.ns.flatMap nmB ++ tsB t d.ts ++ d.raw
/-- The name at a place of bytes. -/
def gName (b : List Int) (p : Nat) : Option (List ByteArray × Nat) := if p < b.length then (match rgo b p [] with | some (o, q) => if nck o = 0 then some (o, q) else none | none => none) else none
def gNum (b : List Int) (p wd : Nat) : Nat := (val ((b.drop p).take wd)).toNat
def gTexts (b : List Int) (p : Nat) : Option (List ByteArray) :=
  if h : p < b.length then (if p + 1 + (b.getD p 0).toNat ≤ b.length then (gTexts b (p + 1 + (b.getD p 0).toNat)).map (lb ((b.drop (p + 1)).take (b.getD p 0).toNat) :: ·) else none) else some []
termination_by b.length - p
decreasing_by omega
def guessF (t : Nat) (b : List Int) : Option Dat :=
  if t = 6 then (gName b 0).bind fun x => (gName b x.2).bind fun y => if y.2 + 20 ≤ b.length then some ⟨[x.1, y.1], [gNum b y.2 4, gNum b (y.2 + 4) 4, gNum b (y.2 + 8) 4, gNum b (y.2 + 12) 4, gNum b (y.2 + 16) 4], [], []⟩ else none
  else if (shp t).nn = 1 then (if (shp t).nu * (shp t).wd ≤ b.length then (gName b ((shp t).nu * (shp t).wd)).map fun x => ⟨[x.1], (List.range (shp t).nu).map (fun i => gNum b (i * (shp t).wd) (shp t).wd), [], []⟩ else none)
  else if t = 16 then (gTexts b 0).map fun l => ⟨[], [], l, []⟩
  else if t = 257 then (if 2 ≤ b.length ∧ 2 + (b.getD 1 0).toNat ≤ b.length then some ⟨[], [gNum b 0 1], [lb ((b.drop 2).take (b.getD 1 0).toNat), lb (b.drop (2 + (b.getD 1 0).toNat))], []⟩ else none)
  else some ⟨[], [], [], b⟩
/-- What the document reads of bytes. -/
def dreadF (t : Nat) (b : List Int) : Option Dat := (guessF t b).bind fun d => if checkF t d = 0 ∧ writeF t d = b then some d else none
theorem nmB_len (n : List ByteArray) : (nmB n).length = nsz n := by
  have := nby_len n
  simp [nmB]; omega
theorem gName_at (P R : List Int) (n : List ByteArray) (h : nck n = 0) : gName (P ++ (nmB n ++ R)) P.length = some (n, P.length + nsz n) := by
  unfold gName
  have hl := nmB_len n
  have hz : 1 ≤ nsz n := by have := nsz_len n; omega
  have e : P ++ (nmB n ++ R) = P ++ (nby n ++ (0 :: R)) := by simp [nmB]
  rw [if_pos (by simp [hl]; omega), e, rgo_nby n P R [] (nck_small h).2]
  have := nby_len n
  simp [h]
  omega
theorem numB_len (n wd : Nat) (h : wd = 1 ∨ wd = 2 ∨ wd = 4) : (numB n wd).length = wd := by
  rcases h with rfl | rfl | rfl <;> simp [numB]
theorem val_numB (n wd : Nat) (h : (wd = 1 ∧ n ≤ 255) ∨ (wd = 2 ∧ n ≤ 65535) ∨ (wd = 4 ∧ n ≤ 4294967295)) : (val (numB n wd)).toNat = n := by
  rcases h with ⟨rfl, h⟩ | ⟨rfl, h⟩ | ⟨rfl, h⟩
  · simp [numB, val]
  · simp only [numB, val]
    simp
    omega
  · simp only [numB, val]
    simp
    omega
theorem gNum_at (P R : List Int) (n wd p : Nat) (h : (wd = 1 ∧ n ≤ 255) ∨ (wd = 2 ∧ n ≤ 65535) ∨ (wd = 4 ∧ n ≤ 4294967295)) (hp : p = P.length) : gNum (P ++ (numB n wd ++ R)) p wd = n := by
  subst hp
  unfold gNum
  have hl := numB_len n wd (by omega)
  rw [List.drop_left, List.take_append_of_le_length (by omega), List.take_of_length_le (by omega)]
  exact val_numB n wd h
theorem gTexts_at : ∀ (l : List ByteArray) (P : List Int), gTexts (P ++ nby l) P.length = some l
  | [], P => by
    rw [gTexts, dif_neg (by simp [nby])]
  | s :: r, P => by
    have hf : nby (s :: r) = (s.size : Int) :: (nums s ++ nby r) := by simp [nby]
    have hg : (P ++ nby (s :: r)).getD P.length 0 = (s.size : Int) := by rw [hf]; simp [List.getD_eq_getElem?_getD]
    have hl : (P ++ nby (s :: r)).length = P.length + (1 + (s.size + (nby r).length)) := by rw [hf]; simp [nums_len]; omega
    rw [gTexts, dif_pos (by rw [hl]; omega), hg, Int.toNat_natCast, if_pos (by rw [hl]; omega)]
    have ih := gTexts_at r (P ++ ((s.size : Int) :: nums s))
    have e1 : P ++ nby (s :: r) = P ++ ((s.size : Int) :: nums s) ++ nby r := by rw [hf]; simp
    have e2 : (P ++ ((s.size : Int) :: nums s)).length = P.length + 1 + s.size := by simp [nums_len]; omega
    have hd : ((P ++ nby (s :: r)).drop (P.length + 1)).take s.size = nums s := by
      rw [hf, List.drop_append, List.drop_eq_nil_of_le (by omega), Nat.add_sub_cancel_left, List.nil_append]
      show (nums s ++ _).take s.size = nums s
      rw [List.take_append_of_le_length (by rw [nums_len]; exact Nat.le_refl _), List.take_of_length_le (by rw [nums_len]; exact Nat.le_refl _)]
    have hlb : lb (nums s) = s := txt_back s
    rw [e2] at ih
    rw [hd, hlb]
    conv => lhs; arg 2; rw [e1]
    rw [ih]
    rfl
end Go.Proofs.Ytdeoembjfdbbkaa
/- What is written of data is read as them; data that are read were written so; folded data; their order. No text of the program is used here. -/
namespace Go.Proofs.Ytdeoembjfdbbkaa
open Go.ChangeShapes Go.WideShapes Go.ChangeAt Go.RowKit
set_option linter.unusedVariables false
set_option linter.unusedSimpArgs false


theorem nsErr_all : ∀ l : List (List ByteArray), nsErr l = 0 ↔ ∀ n ∈ l, nck n = 0
  | [] => by simp [nsErr]
  | n :: r => by
    have ih := nsErr_all r
    unfold nsErr
    by_cases h : nck n = 0
    · rw [if_pos h, ih]; simp [h]
    · rw [if_neg h]; simp [h]
theorem check_parts {t : Nat} {d : Dat} (h : checkF t d = 0) : mayT t = true ∧ fitsB t d = true ∧ (∀ n ∈ d.ns, nck n = 0) ∧ sizesF t d ≤ 65535 := by
  unfold checkF at h
  split at h
  · rename_i h1
    split at h
    · rename_i h2
      split at h
      · rename_i h3
        split at h
        · cases h
        · rename_i h4
          exact ⟨h1, h2, (nsErr_all _).1 h3, by omega⟩
      · rename_i h3; exact absurd h h3
    · cases h
  · cases h
theorem check_of {t : Nat} {d : Dat} (h1 : mayT t = true) (h2 : fitsB t d = true) (h3 : ∀ n ∈ d.ns, nck n = 0) (h4 : sizesF t d ≤ 65535) : checkF t d = 0 := by
  unfold checkF
  rw [if_pos h1, if_pos h2, if_pos ((nsErr_all _).2 h3), if_neg (by omega)]
/-- The fields of data that fit. -/
structure Fit (t : Nat) (d : Dat) : Prop where
  ns : d.ns.length = (shp t).nn
  us : d.us.length = (shp t).nu
  ts : (shp t).nt < 0 ∨ (d.ts.length : Int) = (shp t).nt
  t1 : 0 ≤ (shp t).nt ∨ d.ts.length ≠ 0
  raw : (shp t).nr < 0 ∨ (d.raw.length : Int) = (shp t).nr
  un : ∀ n ∈ d.us, n ≤ most (shp t).wd
  tx : t = 16 → ∀ s ∈ d.ts, s.size ≤ 255
  tg : t = 257 → tagB (d.ts.getD 0 ⟨#[]⟩) = true
theorem fit_iff (t : Nat) (d : Dat) : fitsB t d = true ↔ Fit t d := by
  unfold fitsB
  simp only [Bool.and_eq_true, Bool.or_eq_true, decide_eq_true_eq, List.all_eq_true]
  constructor
  · rintro ⟨⟨⟨⟨⟨⟨⟨a, b⟩, c⟩, e⟩, f⟩, g⟩, h⟩, i⟩
    exact ⟨a, b, c, e, f, g, fun ht => h.resolve_left (fun hn => hn ht), fun ht => i.resolve_left (fun hn => hn ht)⟩
  · rintro ⟨a, b, c, e, f, g, h, i⟩
    refine ⟨⟨⟨⟨⟨⟨⟨a, b⟩, c⟩, e⟩, f⟩, g⟩, ?_⟩, ?_⟩
    · by_cases ht : t = 16
      · exact .inr (h ht)
      · exact .inl ht
    · by_cases ht : t = 257
      · exact .inr (i ht)
      · exact .inl ht
theorem len0 {α : Type} {l : List α} (h : l.length = 0) : l = [] := List.eq_nil_of_length_eq_zero h
theorem len1 {α : Type} {l : List α} (h : l.length = 1) : ∃ a, l = [a] := List.length_eq_one_iff.1 h
theorem len2 {α : Type} {l : List α} (h : l.length = 2) : ∃ a b, l = [a, b] := by
  match l, h with
  | [a, b], _ => exact ⟨a, b, rfl⟩
theorem len3 {α : Type} {l : List α} (h : l.length = 3) : ∃ a b c, l = [a, b, c] := by
  match l, h with
  | [a, b, c], _ => exact ⟨a, b, c, rfl⟩
theorem len5 {α : Type} {l : List α} (h : l.length = 5) : ∃ a b c e f, l = [a, b, c, e, f] := by
  match l, h with
  | [a, b, c, e, f], _ => exact ⟨a, b, c, e, f, rfl⟩
/-- The eleven ways of a type. -/
theorem shp_cases (t : Nat) : (t = 1 ∧ shp t = ⟨0, 0, 0, 4, 0⟩) ∨ (t = 28 ∧ shp t = ⟨0, 0, 0, 16, 0⟩) ∨ ((t = 2 ∨ t = 5 ∨ t = 12) ∧ shp t = ⟨1, 0, 0, 0, 0⟩) ∨ (t = 6 ∧ shp t = ⟨2, 5, 0, 0, 4⟩) ∨ (t = 15 ∧ shp t = ⟨1, 1, 0, 0, 2⟩) ∨ (t = 33 ∧ shp t = ⟨1, 3, 0, 0, 2⟩) ∨ (t = 16 ∧ shp t = ⟨0, 0, -1, 0, 0⟩) ∨ (t = 257 ∧ shp t = ⟨0, 1, 2, 0, 1⟩) ∨
    ((t ≠ 1 ∧ t ≠ 28 ∧ t ≠ 2 ∧ t ≠ 5 ∧ t ≠ 12 ∧ t ≠ 6 ∧ t ≠ 15 ∧ t ≠ 33 ∧ t ≠ 16 ∧ t ≠ 257) ∧ shp t = ⟨0, 0, 0, -1, 0⟩) := by
  by_cases h1 : t = 1
  · subst h1; left; exact ⟨rfl, rfl⟩
  by_cases h2 : t = 28
  · subst h2; right; left; exact ⟨rfl, rfl⟩
  by_cases h3 : t = 2 ∨ t = 5 ∨ t = 12
  · right; right; left; refine ⟨h3, ?_⟩; rcases h3 with rfl | rfl | rfl <;> rfl
  by_cases h4 : t = 6
  · subst h4; right; right; right; left; exact ⟨rfl, rfl⟩
  by_cases h5 : t = 15
  · subst h5; right; right; right; right; left; exact ⟨rfl, rfl⟩
  by_cases h6 : t = 33
  · subst h6; right; right; right; right; right; left; exact ⟨rfl, rfl⟩
  by_cases h7 : t = 16
  · subst h7; right; right; right; right; right; right; left; exact ⟨rfl, rfl⟩
  by_cases h8 : t = 257
  · subst h8; right; right; right; right; right; right; right; left; exact ⟨rfl, rfl⟩
  · right; right; right; right; right; right; right; right
    refine ⟨⟨h1, h2, fun e => h3 (.inl e), fun e => h3 (.inr (.inl e)), fun e => h3 (.inr (.inr e)), h4, h5, h6, h7, h8⟩, ?_⟩
    unfold shp
    rw [if_neg h1, if_neg h2, if_neg h3, if_neg h4, if_neg h5, if_neg h6, if_neg h7, if_neg h8]
theorem guess_write (t : Nat) (d : Dat) (h : checkF t d = 0) : guessF t (writeF t d) = some d := by
  obtain ⟨h1, h2, h3, h4⟩ := check_parts h
  have hf := (fit_iff t d).1 h2
  obtain ⟨ns, us, ts, raw⟩ := d
  obtain ⟨fns, fus, fts, ft1, fraw, fun_, ftx, ftg⟩ := hf
  simp only at fns fus fts ft1 fraw fun_ ftx ftg h3
  rcases shp_cases t with ⟨rfl, e⟩ | ⟨rfl, e⟩ | ⟨ht, e⟩ | ⟨rfl, e⟩ | ⟨rfl, e⟩ | ⟨rfl, e⟩ | ⟨rfl, e⟩ | ⟨rfl, e⟩ | ⟨ht, e⟩ <;> rw [e] at fns fus fts ft1 fraw fun_ <;> simp only at fns fus fts ft1 fraw fun_
  · obtain rfl := len0 fns
    obtain rfl := len0 fus
    obtain rfl := len0 (l := ts) (by omega)
    simp [guessF, writeF, e, tsB]
  · obtain rfl := len0 fns
    obtain rfl := len0 fus
    obtain rfl := len0 (l := ts) (by omega)
    simp [guessF, writeF, e, tsB]
  · obtain ⟨n, rfl⟩ := len1 fns
    obtain rfl := len0 fus
    obtain rfl := len0 (l := ts) (by omega)
    obtain rfl := len0 (l := raw) (by omega)
    have hg := gName_at [] [] n (h3 n (by simp))
    simp only [List.nil_append, List.length_nil, List.append_nil] at hg
    have h6 : t ≠ 6 := by rcases ht with rfl | rfl | rfl <;> decide
    have hw : writeF t ⟨[n], [], [], []⟩ = nmB n := by
      unfold writeF tsB
      rw [if_neg h6]
      split <;> simp [nby]
    rw [hw]
    unfold guessF
    rw [if_neg h6, e]
    simp [hg]
  · obtain ⟨n, m, rfl⟩ := len2 fns
    obtain ⟨a, b, c, x, y, rfl⟩ := len5 fus
    obtain rfl := len0 (l := ts) (by omega)
    obtain rfl := len0 (l := raw) (by omega)
    have hb : ∀ z ∈ [a, b, c, x, y], z ≤ 4294967295 := fun_
    have hw : writeF 6 ⟨[n, m], [a, b, c, x, y], [], []⟩ = nmB n ++ (nmB m ++ (numB a 4 ++ (numB b 4 ++ (numB c 4 ++ (numB x 4 ++ (numB y 4 ++ [])))))) := by simp [writeF]
    rw [hw]
    have g1 := gName_at [] (nmB m ++ (numB a 4 ++ (numB b 4 ++ (numB c 4 ++ (numB x 4 ++ (numB y 4 ++ [])))))) n (h3 n (by simp))
    have g2 := gName_at (nmB n) (numB a 4 ++ (numB b 4 ++ (numB c 4 ++ (numB x 4 ++ (numB y 4 ++ []))))) m (h3 m (by simp))
    have l1 := nmB_len n
    have l2 := nmB_len m
    have na := numB_len a 4 (by simp)
    have nb := numB_len b 4 (by simp)
    have nc := numB_len c 4 (by simp)
    have nx := numB_len x 4 (by simp)
    have ny := numB_len y 4 (by simp)
    have k1 := gNum_at (nmB n ++ nmB m) (numB b 4 ++ (numB c 4 ++ (numB x 4 ++ (numB y 4 ++ [])))) a 4 (nsz n + nsz m) (.inr (.inr ⟨rfl, hb a (by simp)⟩)) (by simp [l1, l2])
    have k2 := gNum_at (nmB n ++ nmB m ++ numB a 4) (numB c 4 ++ (numB x 4 ++ (numB y 4 ++ []))) b 4 (nsz n + nsz m + 4) (.inr (.inr ⟨rfl, hb b (by simp)⟩)) (by simp only [List.length_append, l1, l2, na])
    have k3 := gNum_at (nmB n ++ nmB m ++ numB a 4 ++ numB b 4) (numB x 4 ++ (numB y 4 ++ [])) c 4 (nsz n + nsz m + 8) (.inr (.inr ⟨rfl, hb c (by simp)⟩)) (by simp only [List.length_append, l1, l2, na, nb])
    have k4 := gNum_at (nmB n ++ nmB m ++ numB a 4 ++ numB b 4 ++ numB c 4) (numB y 4 ++ []) x 4 (nsz n + nsz m + 12) (.inr (.inr ⟨rfl, hb x (by simp)⟩)) (by simp only [List.length_append, l1, l2, na, nb, nc])
    have k5 := gNum_at (nmB n ++ nmB m ++ numB a 4 ++ numB b 4 ++ numB c 4 ++ numB x 4) [] y 4 (nsz n + nsz m + 16) (.inr (.inr ⟨rfl, hb y (by simp)⟩)) (by simp only [List.length_append, l1, l2, na, nb, nc, nx])
    simp only [List.append_assoc] at k1 k2 k3 k4 k5
    simp only [List.nil_append, List.length_nil, Nat.zero_add] at g1
    rw [l1] at g2
    unfold guessF
    rw [if_pos rfl, g1]
    simp only [Option.bind_some]
    rw [g2]
    simp only [Option.bind_some]
    rw [if_pos (by simp [l1, l2, na, nb, nc, nx, ny]; omega), k1, k2, k3, k4, k5]
  · obtain ⟨n, rfl⟩ := len1 fns
    obtain ⟨a, rfl⟩ := len1 fus
    obtain rfl := len0 (l := ts) (by omega)
    obtain rfl := len0 (l := raw) (by omega)
    have hb : ∀ z ∈ [a], z ≤ 65535 := fun_
    have hw : writeF 15 ⟨[n], [a], [], []⟩ = numB a 2 ++ (nmB n ++ []) := by simp [writeF, e, tsB]
    rw [hw]
    have na := numB_len a 2 (by simp)
    have g1 := gName_at (numB a 2) [] n (h3 n (by simp))
    have k1 := gNum_at [] (nmB n ++ []) a 2 0 (.inr (.inl ⟨rfl, hb a (by simp)⟩)) rfl
    rw [na] at g1
    simp only [List.nil_append] at k1
    unfold guessF
    rw [if_neg (by decide), e]
    simp only [if_true]
    rw [if_pos (by simp [na]), show 1 * 2 = 2 from rfl, g1]
    simp [List.range_succ]
    simpa using k1
  · obtain ⟨n, rfl⟩ := len1 fns
    obtain ⟨a, b, c, rfl⟩ := len3 fus
    obtain rfl := len0 (l := ts) (by omega)
    obtain rfl := len0 (l := raw) (by omega)
    have hb : ∀ z ∈ [a, b, c], z ≤ 65535 := fun_
    have hw : writeF 33 ⟨[n], [a, b, c], [], []⟩ = numB a 2 ++ (numB b 2 ++ (numB c 2 ++ (nmB n ++ []))) := by simp [writeF, e, tsB]
    rw [hw]
    have na := numB_len a 2 (by simp)
    have nb := numB_len b 2 (by simp)
    have nc := numB_len c 2 (by simp)
    have g1 := gName_at (numB a 2 ++ numB b 2 ++ numB c 2) [] n (h3 n (by simp))
    have k1 := gNum_at [] (numB b 2 ++ (numB c 2 ++ (nmB n ++ []))) a 2 0 (.inr (.inl ⟨rfl, hb a (by simp)⟩)) rfl
    have k2 := gNum_at (numB a 2) (numB c 2 ++ (nmB n ++ [])) b 2 2 (.inr (.inl ⟨rfl, hb b (by simp)⟩)) (by rw [na])
    have k3 := gNum_at (numB a 2 ++ numB b 2) (nmB n ++ []) c 2 4 (.inr (.inl ⟨rfl, hb c (by simp)⟩)) (by simp [na, nb])
    simp only [List.append_assoc, List.length_append, na, nb, nc, List.nil_append] at g1 k1 k2 k3
    unfold guessF
    rw [if_neg (by decide), e]
    simp only [if_true]
    rw [if_pos (by simp [na, nb, nc]; omega), show 3 * 2 = 2 + (2 + 2) from rfl, g1]
    simp only [Option.map_some]
    rw [show List.range 3 = [0, 1, 2] from rfl]
    simp only [List.map_cons, List.map_nil, Nat.zero_mul, Nat.one_mul]
    rw [k1, k2, show 2 * 2 = 4 from rfl, k3]
  · obtain rfl := len0 fns
    obtain rfl := len0 fus
    obtain rfl := len0 (l := raw) (by omega)
    have hw : writeF 16 ⟨[], [], ts, []⟩ = nby ts := by simp [writeF, tsB]
    have g1 := gTexts_at ts []
    simp only [List.nil_append, List.length_nil] at g1
    rw [hw]
    unfold guessF
    rw [if_neg (by decide), e]
    simp [g1]
  · obtain rfl := len0 fns
    obtain ⟨a, rfl⟩ := len1 fus
    obtain ⟨s, u, rfl⟩ := len2 (l := ts) (by omega)
    obtain rfl := len0 (l := raw) (by omega)
    have hb : ∀ z ∈ [a], z ≤ 255 := fun_
    have hw : writeF 257 ⟨[], [a], [s, u], []⟩ = (a : Int) :: (s.size : Int) :: (nums s ++ nums u) := by simp [writeF, e, tsB, numB]
    rw [hw]
    have hl : ((a : Int) :: (s.size : Int) :: (nums s ++ nums u)).length = 2 + (s.size + u.size) := by simp [nums_len]; omega
    have hd : ((a : Int) :: (s.size : Int) :: (nums s ++ nums u)).getD 1 0 = (s.size : Int) := rfl
    unfold guessF
    rw [if_neg (by decide), e, if_neg (by decide), if_neg (by decide), if_pos rfl, hd, Int.toNat_natCast, hl, if_pos ⟨by omega, by omega⟩]
    have d1 : (((a : Int) :: (s.size : Int) :: (nums s ++ nums u)).drop 2).take s.size = nums s := by
      show (nums s ++ nums u).take s.size = nums s
      rw [List.take_append_of_le_length (by rw [nums_len]; exact Nat.le_refl _), List.take_of_length_le (by rw [nums_len]; exact Nat.le_refl _)]
    have d2 : ((a : Int) :: (s.size : Int) :: (nums s ++ nums u)).drop (2 + s.size) = nums u := by
      rw [Nat.add_comm]
      show (nums s ++ nums u).drop s.size = nums u
      rw [List.drop_append_of_le_length (by rw [nums_len]; exact Nat.le_refl _), List.drop_eq_nil_of_le (by rw [nums_len]; exact Nat.le_refl _), List.nil_append]
    have d3 : gNum ((a : Int) :: (s.size : Int) :: (nums s ++ nums u)) 0 1 = a := by simp [gNum, val]
    rw [d1, d2, d3, show lb (nums s) = s from txt_back s, show lb (nums u) = u from txt_back u]
  · obtain rfl := len0 fns
    obtain rfl := len0 fus
    obtain rfl := len0 (l := ts) (by omega)
    have hw : writeF t ⟨[], [], [], raw⟩ = raw := by
      unfold writeF tsB
      rw [if_neg ht.2.2.2.2.2.1, if_neg ht.2.2.2.2.2.2.2.2.1]
      simp
    rw [hw]
    unfold guessF
    rw [if_neg ht.2.2.2.2.2.1, e, if_neg (by decide), if_neg ht.2.2.2.2.2.2.2.2.1, if_neg ht.2.2.2.2.2.2.2.2.2]
theorem read_write (t : Nat) (d : Dat) (h : checkF t d = 0) : dreadF t (writeF t d) = some d := by
  unfold dreadF
  rw [guess_write t d h]
  simp [h]
theorem write_read {t : Nat} {b : List Int} {d : Dat} (h : dreadF t b = some d) : checkF t d = 0 ∧ writeF t d = b := by
  unfold dreadF at h
  cases hg : guessF t b with
  | none => rw [hg] at h; cases h
  | some x =>
    rw [hg] at h
    simp only [Option.bind_some] at h
    split at h
    · rename_i hc; cases h; exact hc
    · cases h
/-- Whatever reads so reads as the document. -/
theorem read_unique {t : Nat} {b : List Int} {o : Option Dat} (h1 : ∀ d, o = some d → checkF t d = 0 ∧ writeF t d = b) (h2 : o = none → ∀ d, checkF t d = 0 → writeF t d ≠ b) : o = dreadF t b := by
  cases ho : o with
  | none =>
    cases hd : dreadF t b with
    | none => rfl
    | some d => exact absurd (write_read hd).2 (h2 ho d (write_read hd).1)
  | some d =>
    obtain ⟨a, e⟩ := h1 d ho
    rw [← e, read_write t d a]
end Go.Proofs.Ytdeoembjfdbbkaa
/- Folded data and the order of data. No text of the program is used here. -/
namespace Go.Proofs.Ytdeoembjfdbbkaa
open Go.ChangeShapes Go.WideShapes Go.ChangeAt Go.RowKit
set_option linter.unusedVariables false
set_option linter.unusedSimpArgs false


/-- A label folded, a name folded, data folded. -/
def foldL (s : ByteArray) : ByteArray := ⟨(txt ((nums s).map fz)).toArray⟩
def foldN (n : List ByteArray) : List ByteArray := n.map foldL
def foldD (t : Nat) (d : Dat) : Dat := if mayT t = true ∧ (shp t).nn ≠ 0 then ⟨d.ns.map foldN, d.us, d.ts, d.raw⟩ else d
theorem foldL_size (s : ByteArray) : (foldL s).size = s.size := by
  show (txt ((nums s).map fz)).toArray.size = s.size
  rw [List.size_toArray, txt_len, List.length_map, nums_len]
theorem nums_foldL (s : ByteArray) : nums (foldL s) = (nums s).map fz := by
  unfold foldL
  refine nums_txt _ fun z hz => ?_
  obtain ⟨y, hy, rfl⟩ := List.mem_map.1 hz
  exact fz_bd y (nums_bds s y hy)
theorem foldL_fold (s : ByteArray) : foldL (foldL s) = foldL s := by
  have h := nums_foldL s
  unfold foldL at h ⊢
  rw [h, List.map_map]
  congr 3
  exact List.map_congr_left fun z _ => fz_fz z
theorem foldN_fold (n : List ByteArray) : foldN (foldN n) = foldN n := by
  unfold foldN
  rw [List.map_map]
  exact List.map_congr_left fun s _ => foldL_fold s
theorem foldN_nsz : ∀ n : List ByteArray, nsz (foldN n) = nsz n
  | [] => rfl
  | s :: r => by
    have := foldN_nsz r
    simp only [foldN, List.map_cons, nsz, foldL_size] at this ⊢
    omega
theorem foldN_nck (n : List ByteArray) : nck (foldN n) = nck n := by
  have h : labsOk (foldN n) ↔ labsOk n := by
    unfold labsOk foldN
    simp only [List.mem_map, forall_exists_index, and_imp, forall_apply_eq_imp_iff₂, foldL_size]
  unfold nck
  rw [foldN_nsz]
  by_cases hl : labsOk n
  · rw [if_pos hl, if_pos (h.2 hl)]
  · rw [if_neg hl, if_neg (fun x => hl (h.1 x))]
theorem nsErr_fold : ∀ l : List (List ByteArray), nsErr (l.map foldN) = nsErr l
  | [] => rfl
  | n :: r => by
    simp only [List.map_cons, nsErr, foldN_nck, nsErr_fold r]
theorem foldD_check (t : Nat) (d : Dat) : checkF t (foldD t d) = checkF t d := by
  unfold foldD
  split
  · have h1 : fitsB t ⟨d.ns.map foldN, d.us, d.ts, d.raw⟩ = fitsB t d := by simp [fitsB]
    have h2 : sizesF t ⟨d.ns.map foldN, d.us, d.ts, d.raw⟩ = sizesF t d := by
      unfold sizesF
      simp only [List.map_map]
      congr 3
      exact List.map_congr_left fun n _ => foldN_nsz n
    unfold checkF
    rw [h1, h2]
    simp only [nsErr_fold]
  · rfl
theorem foldD_fold (t : Nat) (d : Dat) : foldD t (foldD t d) = foldD t d := by
  unfold foldD
  by_cases h : mayT t = true ∧ (shp t).nn ≠ 0
  · simp only [if_pos h, List.map_map]
    congr 1
    exact List.map_congr_left fun n _ => foldN_fold n
  · simp only [if_neg h]
/-- How two stand to one another. -/
def cmpL (x y : List Int) : Int := Lib.compareBytes (txt x) (txt y)
def compareF (t : Nat) (a b : Dat) : Int := if checkF t a = 0 ∧ checkF t b = 0 then cmpL (writeF t (foldD t a)) (writeF t (foldD t b)) else 0
def sameF (t : Nat) (a b : Dat) : Bool := decide (checkF t a = 0) && decide (checkF t b = 0) && decide (compareF t a b = 0)
theorem compareF_range (t : Nat) (a b : Dat) : compareF t a b = -1 ∨ compareF t a b = 0 ∨ compareF t a b = 1 := by
  unfold compareF
  split
  · exact cb_range _ _
  · exact .inr (.inl rfl)
theorem compareF_neg (t : Nat) (a b : Dat) : compareF t b a = - compareF t a b := by
  unfold compareF
  by_cases h : checkF t a = 0 ∧ checkF t b = 0
  · rw [if_pos h, if_pos ⟨h.2, h.1⟩]; exact cb_neg _ _
  · rw [if_neg h, if_neg (fun x => h ⟨x.2, x.1⟩)]; rfl
theorem compareF_trans {t : Nat} {a b c : Dat} (ha : checkF t a = 0) (hb : checkF t b = 0) (hc : checkF t c = 0) (h1 : compareF t a b ≤ 0) (h2 : compareF t b c ≤ 0) : compareF t a c ≤ 0 := by
  unfold compareF at *
  rw [if_pos ⟨ha, hb⟩] at h1
  rw [if_pos ⟨hb, hc⟩] at h2
  rw [if_pos ⟨ha, hc⟩]
  exact cb_trans _ _ _ h1 h2
theorem compareF_strict {t : Nat} {a b c : Dat} (ha : checkF t a = 0) (hb : checkF t b = 0) (hc : checkF t c = 0) (h1 : compareF t a b < 0) (h2 : compareF t b c ≤ 0) : compareF t a c < 0 := by
  by_cases h : compareF t a c < 0
  · exact h
  · have h3 : compareF t c a ≤ 0 := by rw [compareF_neg]; omega
    have h4 := compareF_trans hb hc ha h2 h3
    rw [compareF_neg] at h4
    omega
theorem same_fold {t : Nat} {a : Dat} (ha : checkF t a = 0) : sameF t a (foldD t a) = true := by
  have h := foldD_check t a
  unfold sameF compareF
  rw [h, ha, foldD_fold]
  have : cmpL (writeF t (foldD t a)) (writeF t (foldD t a)) = 0 := cb_refl _
  simp [this]
end Go.Proofs.Ytdeoembjfdbbkaa
