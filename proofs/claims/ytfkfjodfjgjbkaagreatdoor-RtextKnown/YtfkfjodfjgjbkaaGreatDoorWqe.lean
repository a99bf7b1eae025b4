/- Texts laid together: Xb Nxi Pz Pc Pd Pe Dor Kb. -/
import Derived.Test.YtfkfjodfjgjbkaaGreatDoorWqd
import Derived.Lib.AppendStr
import Derived.Lib.AppendZerosOnto
import Derived.Deep.QuietTactic
import Derived.BigQuiet
import Derived.Deep.RegionHeld3
import Derived.WalkSpells
/- The words of data, and data read of words: without any program. -/
namespace Go.Proofs.YtfkfjodfjgjbkaaGreatDoor
open Go.ChangeShapes Go.WideShapes Go.ChangeAt Go.RowKit
set_option linter.unusedVariables false
set_option linter.unusedSimpArgs false


theorem nums_lb (l : List Int) (h : ∀ z ∈ l, 0 ≤ z ∧ z ≤ 255) : nums (lb l) = l := nums_back l h
theorem lb_nums (s : ByteArray) : lb (nums s) = s := txt_nums s
/-- Bytes as digits. -/
def xhexs (l : List Int) : List Int := l.flatMap fun c => [xhd (c / 16).toNat, xhd (c % 16).toNat]
def xunhex : List Int → Option (List Int)
  | [] => some []
  | a :: b :: l => (xhv a).bind fun x => (xhv b).bind fun y => (xunhex l).map fun o => ((16 * x + y : Nat) : Int) :: o
  | _ => none
theorem xunhex_hexs (l : List Int) (h : ∀ c ∈ l, 0 ≤ c ∧ c ≤ 255) : xunhex (xhexs l) = some l := by
  induction l with
  | nil => rfl
  | cons c l ih =>
    have hc := h c (by simp)
    show xunhex (xhd (c / 16).toNat :: xhd (c % 16).toNat :: xhexs l) = _
    rw [xunhex, xhv_hd _ (by omega), xhv_hd _ (by omega), ih (fun x hx => h x (List.mem_cons_of_mem _ hx))]
    simp
    omega
theorem xhexs_len (l : List Int) : (xhexs l).length = 2 * l.length := by
  induction l with
  | nil => rfl
  | cons c l ih =>
    show (xhd (c / 16).toNat :: xhd (c % 16).toNat :: xhexs l).length = _
    simp only [List.length_cons, ih]; omega
theorem xhd_by (v : Nat) (h : v < 16) : 48 ≤ xhd v ∧ xhd v ≤ 102 := by unfold xhd; split <;> omega
theorem xhexs_by (l : List Int) (h : ∀ c ∈ l, 0 ≤ c ∧ c ≤ 255) : ∀ c ∈ xhexs l, 48 ≤ c ∧ c ≤ 102 := by
  intro c hc
  simp only [xhexs, List.mem_flatMap] at hc
  obtain ⟨b, hb, hc⟩ := hc
  have := h b hb
  simp only [List.mem_cons, List.not_mem_nil, or_false] at hc
  rcases hc with rfl | rfl
  · exact xhd_by _ (by omega)
  · exact xhd_by _ (by omega)
/-- Has a type data of its own? -/
def xkn (t : Nat) : Bool := [1, 2, 5, 6, 12, 15, 16, 28, 33, 257].contains t
def xqw (s : ByteArray) : ByteArray := lb (xquote (nums s))
def xtw (t : Nat) (ts : List ByteArray) : List ByteArray := if t = 257 then (match ts with | [] => [] | a :: r => a :: r.map xqw) else ts.map xqw
def xnw (n : Nat) : ByteArray := lb (xdec n)
/-- The words of data. -/
def xwords (t : Nat) (d : Dat) : List ByteArray :=
  if t = 1 ∨ t = 28 then [lb ((xaddr d.raw).getD [])]
  else if xkn t = false then lb [92, 35] :: xnw d.raw.length :: (if d.raw = [] then [] else [lb (xhexs d.raw)])
  else if t = 6 then d.ns.map (fun n => (ntext n).1) ++ d.us.map xnw
  else d.us.map xnw ++ d.ns.map (fun n => (ntext n).1) ++ xtw t d.ts
/-- A word as it is read: is it quoted? -/
def xterm (s : ByteArray) : ByteArray × Bool := if (nums s).head? = some 34 ∧ 2 ≤ s.size then (lb (nums s).tail.dropLast, true) else (s, false)
def xnumT (p : ByteArray × Bool) : Option Nat := if p.2 then none else xnum (nums p.1) 4294967296
def xnamT (og : List ByteArray) (p : ByteArray × Bool) : Option (List ByteArray) := if p.2 then none else if (nrel p.1 og).2 = 0 then some (nrel p.1 og).1 else none
def xstrT (p : ByteArray × Bool) : Option ByteArray := (xstr (nums p.1)).map lb
/-- A count of bytes, and their digits. -/
def xraw (t : Nat) (w : List (ByteArray × Bool)) : Option Dat :=
  match w with
  | _ :: p :: r => if p.2 = false ∧ r.all (fun q => !q.2) = true then (xnum (nums p.1) 65536).bind fun n => if (r.flatMap fun q => nums q.1).length = 2 * n then (xunhex (r.flatMap fun q => nums q.1)).bind fun b => dreadF t b else none else none
  | _ => none
def xfields (t : Nat) (w : List (ByteArray × Bool)) (og : List ByteArray) : Option Dat :=
  if t = 6 then ((w.take 2).mapM (xnamT og)).bind fun ns => ((w.drop 2).mapM xnumT).map fun us => ⟨ns, us, [], []⟩
  else if t = 257 then (match w with | [a, b, c] => (xnumT a).bind fun n => if b.2 then none else (xstrT c).map fun x => ⟨[], [n], [b.1, x], []⟩ | _ => none)
  else ((w.take (shp t).nu).mapM xnumT).bind fun us => ((w.drop (shp t).nu).mapM (xnamT og)).map fun ns => ⟨ns, us, [], []⟩
def xknown (t : Nat) (w : List (ByteArray × Bool)) (og : List ByteArray) : Option Dat :=
  if (shp t).nt < 0 then (w.mapM xstrT).map fun ts => ⟨[], [], ts, []⟩
  else if 0 < (shp t).nr then (match w with | [p] => if p.2 then none else (xpaddr (nums p.1)).bind fun b => if (b.length : Int) = (shp t).nr then some ⟨[], [], [], b⟩ else none | _ => none)
  else if (w.length : Int) = (shp t).nn + (shp t).nu + (shp t).nt then xfields t w og else none
def xbody (t : Nat) (w : List (ByteArray × Bool)) (og : List ByteArray) : Option Dat :=
  if w.head? = some (lb [92, 35], false) then xraw t w else if xkn t then xknown t w og else none
/-- Data read of words (of a type that may have data, of an origin that is a name). -/
def xparse (t : Nat) (w : List (ByteArray × Bool)) (og : List ByteArray) : Option Dat := (xbody t w og).bind fun d => if checkF t d = 0 then some d else none
theorem xterm_no (s : ByteArray) (h : (nums s).head? ≠ some 34) : xterm s = (s, false) := by
  unfold xterm; rw [if_neg (fun e => h e.1)]
theorem xq_by (l : List Int) (h : ∀ c ∈ l, 0 ≤ c ∧ c ≤ 255) : ∀ c ∈ xq l, 0 ≤ c ∧ c ≤ 255 := fun c hc => by have := xq_print l h c hc; omega
theorem xquote_by (l : List Int) (h : ∀ c ∈ l, 0 ≤ c ∧ c ≤ 255) : ∀ c ∈ xquote l, 0 ≤ c ∧ c ≤ 255 := fun c hc => by have := xquote_print l h c hc; omega
theorem xterm_q (s : ByteArray) : xterm (xqw s) = (lb (xq (nums s)), true) := by
  have e : nums (xqw s) = xquote (nums s) := nums_lb _ (xquote_by _ (nums_all s))
  unfold xterm
  rw [← nums_len, e, if_pos (by simp [xquote])]
  simp [xquote]
theorem xstrT_q (s : ByteArray) : xstrT (xterm (xqw s)) = some s := by
  rw [xterm_q]
  unfold xstrT
  rw [nums_lb _ (xq_by _ (nums_all s)), xstr_q _ (nums_all s)]
  simp [lb_nums]
theorem xdec_by (n : Nat) : ∀ c ∈ xdec n, 0 ≤ c ∧ c ≤ 255 := fun c hc => by have := xdec_digit n c hc; omega
theorem xnw_nums (n : Nat) : nums (xnw n) = xdec n := nums_lb _ (xdec_by n)
theorem xterm_n (n : Nat) : xterm (xnw n) = (xnw n, false) := by
  apply xterm_no
  rw [xnw_nums]
  intro h
  have := xdec_digit n 34 (List.mem_of_mem_head? h)
  omega
theorem xnumT_n (n : Nat) (h : n < 4294967296) : xnumT (xterm (xnw n)) = some n := by
  rw [xterm_n]; unfold xnumT; simp [xnw_nums, xnum_dec n _ h]
theorem tx1_head (c : Int) : (tx1 c).head? ≠ some 34 := by
  unfold tx1
  split
  · simp
  · split
    · simp
    · next h1 h2 => simp; intro e; subst e; exact h2 rfl
theorem tx_head (l : List Int) : (tx l).head? ≠ some 34 := by
  cases l with
  | nil => simp [tx]
  | cons c l =>
    have h := tx1_head c
    have hn : tx1 c ≠ [] := by unfold tx1; split; simp; split <;> simp
    cases e : tx1 c with
    | nil => exact absurd e hn
    | cons x r => rw [e] at h; simpa [tx, e] using h
theorem xterm_name (n : List ByteArray) (h : nck n = 0) : xterm (ntext n).1 = ((ntext n).1, false) := by
  apply xterm_no
  unfold ntext
  rw [if_pos h]
  split
  · decide
  · next hl =>
    show (nums (ntxt n)).head? ≠ some 34
    rw [nums_ntxt]
    cases n with
    | nil => simp at hl
    | cons s n =>
      have hs := tx_head (nums s)
      unfold flat
      rw [List.flatMap_cons]
      cases e : tx (nums s) with
      | nil => simp
      | cons x r => rw [e] at hs; simpa using hs
theorem xnamT_n (og n : List ByteArray) (hg : nck og = 0) (h : nck n = 0) : xnamT og (xterm (ntext n).1) = some n := by
  rw [xterm_name n h]; unfold xnamT; simp [rel_text n og h hg]
theorem mapM_back {α β γ : Type} (f : α → β) (g : β → Option α) (l : List α) (h : ∀ x ∈ l, g (f x) = some x) : (l.map f).mapM g = some l := by
  induction l with
  | nil => rfl
  | cons a l ih =>
    rw [List.map_cons, List.mapM_cons, h a (by simp), ih (fun x hx => h x (List.mem_cons_of_mem _ hx))]; rfl
theorem nums_m (us : List Nat) (h : ∀ n ∈ us, n < 4294967296) : ((us.map xnw).map xterm).mapM xnumT = some us := by
  rw [List.map_map]; exact mapM_back (γ := Nat) _ _ us (fun n hn => xnumT_n n (h n hn))
theorem names_m (og : List ByteArray) (hg : nck og = 0) (ns : List (List ByteArray)) (h : ∀ n ∈ ns, nck n = 0) : ((ns.map fun n => (ntext n).1).map xterm).mapM (xnamT og) = some ns := by
  rw [List.map_map]; exact mapM_back (γ := Nat) _ _ ns (fun n hn => xnamT_n og n hg (h n hn))
theorem texts_m (ts : List ByteArray) : ((ts.map xqw).map xterm).mapM xstrT = some ts := by
  rw [List.map_map]; exact mapM_back (γ := Nat) _ _ ts (fun s hs => xstrT_q s)
theorem xjoin_mem (k c : Int) (ps : List (List Int)) (h : c ∈ xjoin k ps) : c = k ∨ ∃ p ∈ ps, c ∈ p := by
  induction ps with
  | nil => simp [xjoin] at h
  | cons p ps ih =>
    cases ps with
    | nil => exact .inr ⟨p, by simp, h⟩
    | cons q ps =>
      simp only [xjoin, List.mem_append, List.mem_cons] at h
      rcases h with h | h | h
      · exact .inr ⟨p, by simp, h⟩
      · exact .inl h
      · rcases ih h with h | ⟨x, h1, h2⟩
        · exact .inl h
        · exact .inr ⟨x, List.mem_cons_of_mem _ h1, h2⟩
def xok (c : Int) : Prop := 46 ≤ c ∧ c ≤ 102 ∧ c ≠ 92
theorem xhex_ok (n : Nat) : ∀ c ∈ xhex n, xok c := by
  induction n using Nat.strongRecOn with
  | _ n ih =>
    rw [xhex]
    have hd : ∀ v, v < 16 → xok (xhd v) := by intro v hv; unfold xhd xok; split <;> omega
    by_cases h : n < 16
    · rw [dif_pos h]; intro c hc; simp at hc; subst hc; exact hd n h
    · rw [dif_neg h]; intro c hc
      simp only [List.mem_append, List.mem_singleton] at hc
      rcases hc with hc | rfl
      · exact ih (n / 16) (by omega) c hc
      · exact hd _ (by omega)
theorem xcol_ok (l : List Nat) : ∀ c ∈ xcol l, xok c := by
  intro c hc
  rcases xjoin_mem _ _ _ hc with rfl | ⟨p, hp, hc⟩
  · unfold xok; omega
  · obtain ⟨n, _, rfl⟩ := List.mem_map.1 hp
    exact xhex_ok n c hc
theorem xa6_ok (l : List Nat) : ∀ c ∈ xa6 l, xok c := by
  intro c hc
  unfold xa6 at hc
  split at hc
  · exact xcol_ok _ c hc
  · simp only [List.mem_append, List.mem_cons] at hc
    rcases hc with h | rfl | rfl | h
    · exact xcol_ok _ c h
    · unfold xok; omega
    · unfold xok; omega
    · exact xcol_ok _ c h
theorem xaddr_ok (b s : List Int) (h : xaddr b = some s) : ∀ c ∈ s, xok c := by
  unfold xaddr at h
  split at h
  · injection h with h; subst h
    intro c hc
    rcases xjoin_mem _ _ _ hc with rfl | ⟨p, hp, hc⟩
    · unfold xok; omega
    · obtain ⟨n, _, rfl⟩ := List.mem_map.1 hp
      have := xdec_digit _ c hc
      unfold xok; omega
  · split at h
    · injection h with h; subst h; exact xa6_ok _
    · cases h
theorem xaddr_some (b : List Int) (h : b.length = 4 ∨ b.length = 16) : ∃ s, xaddr b = some s := by
  unfold xaddr
  split
  · exact ⟨_, rfl⟩
  · split
    · exact ⟨_, rfl⟩
    · omega
theorem lb_ne (l m : List Int) (hl : ∀ z ∈ l, 0 ≤ z ∧ z ≤ 255) (hm : ∀ z ∈ m, 0 ≤ z ∧ z ≤ 255) (h : l ≠ m) : lb l ≠ lb m := by
  intro e
  apply h
  rw [← nums_lb l hl, e, nums_lb m hm]
theorem addr_term (s : List Int) (h : ∀ c ∈ s, xok c) : nums (lb s) = s ∧ xterm (lb s) = (lb s, false) ∧ lb s ≠ lb [92, 35] := by
  have hb : ∀ z ∈ s, 0 ≤ z ∧ z ≤ 255 := fun z hz => by have := h z hz; unfold xok at this; omega
  refine ⟨nums_lb s hb, xterm_no _ ?_, lb_ne _ _ hb (by decide) ?_⟩
  · rw [nums_lb s hb]
    intro e
    have := h 34 (List.mem_of_mem_head? e)
    unfold xok at this; omega
  · rintro rfl
    have := h 92 (by simp)
    unfold xok at this; omega
theorem num_ne (n : Nat) : xnw n ≠ lb [92, 35] := by
  apply lb_ne _ _ (xdec_by n) (by decide)
  intro e
  have := xdec_digit n 92 (by rw [e]; simp)
  omega
theorem name_ne (n : List ByteArray) (h : nck n = 0) : (ntext n).1 ≠ lb [92, 35] := by
  intro e
  have e2 : nums (ntext n).1 = [92, 35] := by rw [e]; exact nums_lb _ (by decide)
  unfold ntext at e2
  rw [if_pos h] at e2
  split at e2
  · revert e2; decide
  · next hl =>
    simp only at e2
    rw [nums_ntxt] at e2
    have hl2 : (flat n).getLast? = some 46 := by
      cases n with
      | nil => simp at hl
      | cons s n =>
        obtain ⟨ys, y, hy⟩ : ∃ ys y, s :: n = ys ++ [y] := ⟨_, _, (List.dropLast_concat_getLast (by simp : s :: n ≠ [])).symm⟩
        rw [hy]
        unfold flat
        rw [List.flatMap_append]
        simp
    rw [e2] at hl2
    simp at hl2
theorem body_known (t : Nat) (w : List (ByteArray × Bool)) (og : List ByteArray) (hk : xkn t = true) (h : w.head? ≠ some (lb [92, 35], false)) : xbody t w og = xknown t w og := by
  unfold xbody
  rw [if_neg h, if_pos hk]
theorem body_addr (t : Nat) (k : Nat) (raw : List Int) (og : List ByteArray) (hk : xkn t = true) (ht : t = 1 ∨ t = 28) (hs : (shp t).nt = 0 ∧ (shp t).nr = (k : Int)) (hl : raw.length = k) (h4 : k = 4 ∨ k = 16) (hb : ∀ c ∈ raw, 0 ≤ c ∧ c ≤ 255) : xbody t ((xwords t ⟨[], [], [], raw⟩).map xterm) og = some ⟨[], [], [], raw⟩ := by
  obtain ⟨s, e⟩ := xaddr_some raw (by omega)
  obtain ⟨a1, a2, a3⟩ := addr_term s (xaddr_ok _ _ e)
  have ew : (xwords t ⟨[], [], [], raw⟩).map xterm = [(lb s, false)] := by
    unfold xwords
    rw [if_pos ht]
    simp [e, a2]
  rw [ew, body_known t _ og hk (by simp [a3])]
  unfold xknown
  rw [if_neg (by omega), if_pos (by omega)]
  simp [a1, xaddr_back raw s hb e, hl, hs.2]
theorem body_gen (t : Nat) (ns : List (List ByteArray)) (us : List Nat) (og : List ByteArray) (hk : xkn t = true) (ht : t ≠ 1 ∧ t ≠ 28 ∧ t ≠ 6 ∧ t ≠ 257) (hs : (shp t).nt = 0 ∧ (shp t).nr = 0) (hn : ns.length = (shp t).nn) (hu : us.length = (shp t).nu) (h1 : 0 < (shp t).nn) (hq : ∀ n ∈ ns, nck n = 0) (hb : ∀ n ∈ us, n < 4294967296) (hg : nck og = 0) : xbody t ((xwords t ⟨ns, us, [], []⟩).map xterm) og = some ⟨ns, us, [], []⟩ := by
  have ew : (xwords t ⟨ns, us, [], []⟩).map xterm = (us.map xnw).map xterm ++ (ns.map fun n => (ntext n).1).map xterm := by
    unfold xwords
    rw [if_neg (by omega), if_neg (by simp [hk]), if_neg ht.2.2.1]
    simp [xtw, ht.2.2.2]
  have hh : ((xwords t ⟨ns, us, [], []⟩).map xterm).head? ≠ some (lb [92, 35], false) := by
    rw [ew]
    cases us with
    | cons u us => simp [xterm_n, num_ne]
    | nil =>
      cases ns with
      | nil => simp at hn; omega
      | cons n ns => simp [xterm_name n (hq n (by simp)), name_ne n (hq n (by simp))]
  rw [body_known t _ og hk hh, ew]
  unfold xknown
  rw [if_neg (by omega), if_neg (by omega), if_pos (by simp [hn, hu]; omega)]
  unfold xfields
  rw [if_neg ht.2.2.1, if_neg ht.2.2.2, List.take_left' (by simp [hu]), List.drop_left' (by simp [hu]), nums_m us hb, names_m og hg ns hq]
  rfl
theorem body_soa (ns : List (List ByteArray)) (us : List Nat) (og : List ByteArray) (hn : ns.length = 2) (hu : us.length = 5) (hq : ∀ n ∈ ns, nck n = 0) (hb : ∀ n ∈ us, n < 4294967296) (hg : nck og = 0) : xbody 6 ((xwords 6 ⟨ns, us, [], []⟩).map xterm) og = some ⟨ns, us, [], []⟩ := by
  have ew : (xwords 6 ⟨ns, us, [], []⟩).map xterm = (ns.map fun n => (ntext n).1).map xterm ++ (us.map xnw).map xterm := by
    unfold xwords
    rw [if_neg (by omega), if_neg (by decide), if_pos rfl]
    simp
  have hh : ((xwords 6 ⟨ns, us, [], []⟩).map xterm).head? ≠ some (lb [92, 35], false) := by
    rw [ew]
    cases ns with
    | nil => simp at hn
    | cons n ns => simp [xterm_name n (hq n (by simp)), name_ne n (hq n (by simp))]
  rw [body_known 6 _ og (by decide) hh, ew]
  unfold xknown
  rw [if_neg (by decide), if_neg (by decide), if_pos (by simp [hn, hu, shp])]
  unfold xfields
  rw [if_pos rfl, List.take_left' (by simp [hn]), List.drop_left' (by simp [hn]), nums_m us hb, names_m og hg ns hq]
  rfl
theorem body_txt (ts : List ByteArray) (og : List ByteArray) (hn : ts ≠ []) : xbody 16 ((xwords 16 ⟨[], [], ts, []⟩).map xterm) og = some ⟨[], [], ts, []⟩ := by
  have ew : (xwords 16 ⟨[], [], ts, []⟩).map xterm = (ts.map xqw).map xterm := by
    unfold xwords
    rw [if_neg (by omega), if_neg (by decide), if_neg (by omega)]
    simp [xtw]
  have hh : ((xwords 16 ⟨[], [], ts, []⟩).map xterm).head? ≠ some (lb [92, 35], false) := by
    rw [ew]
    cases ts with
    | nil => exact absurd rfl hn
    | cons s ts => simp [xterm_q]
  rw [body_known 16 _ og (by decide) hh, ew]
  unfold xknown
  rw [if_pos (by decide), texts_m ts]
  rfl
theorem body_caa (u : Nat) (a b : ByteArray) (og : List ByteArray) (hu : u < 4294967296) (ha : (nums a).all alnum = true) : xbody 257 ((xwords 257 ⟨[], [u], [a, b], []⟩).map xterm) og = some ⟨[], [u], [a, b], []⟩ := by
  have hta : xterm a = (a, false) := by
    apply xterm_no
    intro e
    have := List.all_eq_true.1 ha 34 (List.mem_of_mem_head? e)
    revert this; decide
  have ew : (xwords 257 ⟨[], [u], [a, b], []⟩).map xterm = [xterm (xnw u), (a, false), xterm (xqw b)] := by
    unfold xwords
    rw [if_neg (by omega), if_neg (by decide), if_neg (by omega)]
    simp [xtw, hta]
  rw [ew, body_known 257 _ og (by decide) (by simp [xterm_n, num_ne])]
  unfold xknown
  rw [if_neg (by decide), if_neg (by decide), if_pos (by simp [shp])]
  unfold xfields
  rw [if_neg (by omega), if_pos rfl]
  simp [xnumT_n u hu, xstrT_q]
theorem body_raw (t : Nat) (raw : List Int) (og : List ByteArray) (ht : t ≠ 1 ∧ t ≠ 28) (hk : xkn t = false) (hl : raw.length < 65536) (hb : ∀ c ∈ raw, 0 ≤ c ∧ c ≤ 255) (hd : dreadF t raw = some ⟨[], [], [], raw⟩) : xbody t ((xwords t ⟨[], [], [], raw⟩).map xterm) og = some ⟨[], [], [], raw⟩ := by
  have hs : xterm (lb [92, 35]) = (lb [92, 35], false) := xterm_no _ (by rw [nums_lb _ (by decide)]; decide)
  by_cases h0 : raw = []
  · subst h0
    have ew : (xwords t ⟨[], [], [], []⟩).map xterm = [(lb [92, 35], false), (xnw 0, false)] := by
      unfold xwords
      rw [if_neg (by omega), if_pos hk]
      simp [hs, xterm_n]
    rw [ew]
    unfold xbody
    rw [if_pos (by simp)]
    unfold xraw
    simp [xnw_nums, xnum_dec 0 65536 (by omega), xunhex, hd]
  · have hx : ∀ c ∈ xhexs raw, 0 ≤ c ∧ c ≤ 255 := fun c hc => by have := xhexs_by raw hb c hc; omega
    have hh : xterm (lb (xhexs raw)) = (lb (xhexs raw), false) := by
      apply xterm_no
      rw [nums_lb _ hx]
      intro e
      have := xhexs_by raw hb 34 (List.mem_of_mem_head? e)
      omega
    have ew : (xwords t ⟨[], [], [], raw⟩).map xterm = [(lb [92, 35], false), (xnw raw.length, false), (lb (xhexs raw), false)] := by
      unfold xwords
      rw [if_neg (by omega), if_pos hk]
      simp [hs, xterm_n, h0, hh]
    rw [ew]
    unfold xbody
    rw [if_pos (by simp)]
    unfold xraw
    simp [xnw_nums, xnum_dec raw.length 65536 hl, nums_lb _ hx, xhexs_len, xunhex_hexs raw hb, hd]
/-- Data are read of their own words. -/
theorem xparse_words (t : Nat) (d : Dat) (og : List ByteArray) (hc : checkF t d = 0) (hb : ∀ c ∈ d.raw, 0 ≤ c ∧ c ≤ 255) (hg : nck og = 0) : xparse t ((xwords t d).map xterm) og = some d := by
  suffices h : xbody t ((xwords t d).map xterm) og = some d by
    unfold xparse; rw [h]; simp [hc]
  obtain ⟨hm, hf, hn, hz⟩ := check_parts hc
  have hrw := read_write t d hc
  obtain ⟨ns, us, ts, raw⟩ := d
  unfold fitsB at hf
  simp only [Bool.and_eq_true, decide_eq_true_eq, Bool.or_eq_true, List.all_eq_true] at hf
  obtain ⟨⟨⟨⟨⟨⟨⟨f1, f2⟩, f3⟩, f4⟩, f5⟩, f6⟩, f7⟩, f8⟩ := hf
  rcases shp_cases t with ⟨ht, e⟩ | ⟨ht, e⟩ | ⟨ht, e⟩ | ⟨ht, e⟩ | ⟨ht, e⟩ | ⟨ht, e⟩ | ⟨ht, e⟩ | ⟨ht, e⟩ | ⟨ht, e⟩
  all_goals rw [e] at f1 f2 f3 f4 f5 f6
  all_goals simp only at f1 f2 f3 f4 f5 f6 hn hb
  · have e1 : ns = [] := List.length_eq_zero_iff.1 f1
    have e2 : us = [] := List.length_eq_zero_iff.1 f2
    have e3 : ts = [] := List.length_eq_zero_iff.1 (by omega)
    subst e1 e2 e3
    exact body_addr t 4 raw og (by rw [ht]; decide) (.inl ht) ⟨by rw [e], by rw [e]; rfl⟩ (by omega) (.inl rfl) hb
  · have e1 : ns = [] := List.length_eq_zero_iff.1 f1
    have e2 : us = [] := List.length_eq_zero_iff.1 f2
    have e3 : ts = [] := List.length_eq_zero_iff.1 (by omega)
    subst e1 e2 e3
    exact body_addr t 16 raw og (by rw [ht]; decide) (.inr ht) ⟨by rw [e], by rw [e]; rfl⟩ (by omega) (.inr rfl) hb
  · have e3 : ts = [] := List.length_eq_zero_iff.1 (by omega)
    have e4 : raw = [] := List.length_eq_zero_iff.1 (by omega)
    subst e3 e4
    exact body_gen t ns us og (by rcases ht with rfl | rfl | rfl <;> decide) (by omega) ⟨by rw [e], by rw [e]⟩ (by rw [e]; exact f1) (by rw [e]; exact f2) (by rw [e]; decide) hn (fun n h => by have := f6 n h; simp [most] at this; omega) hg
  · have e3 : ts = [] := List.length_eq_zero_iff.1 (by omega)
    have e4 : raw = [] := List.length_eq_zero_iff.1 (by omega)
    subst e3 e4 ht
    exact body_soa ns us og f1 f2 hn (fun n h => by have := f6 n h; simp [most] at this; omega) hg
  · have e3 : ts = [] := List.length_eq_zero_iff.1 (by omega)
    have e4 : raw = [] := List.length_eq_zero_iff.1 (by omega)
    subst e3 e4
    exact body_gen t ns us og (by rw [ht]; decide) (by omega) ⟨by rw [e], by rw [e]⟩ (by rw [e]; exact f1) (by rw [e]; exact f2) (by rw [e]; decide) hn (fun n h => by have := f6 n h; simp [most] at this; omega) hg
  · have e3 : ts = [] := List.length_eq_zero_iff.1 (by omega)
    have e4 : raw = [] := List.length_eq_zero_iff.1 (by omega)
    subst e3 e4
    exact body_gen t ns us og (by rw [ht]; decide) (by omega) ⟨by rw [e], by rw [e]⟩ (by rw [e]; exact f1) (by rw [e]; exact f2) (by rw [e]; decide) hn (fun n h => by have := f6 n h; simp [most] at this; omega) hg
  · have e1 : ns = [] := List.length_eq_zero_iff.1 f1
    have e2 : us = [] := List.length_eq_zero_iff.1 f2
    have e4 : raw = [] := List.length_eq_zero_iff.1 (by omega)
    subst e1 e2 e4 ht
    exact body_txt ts og (by rintro rfl; simp at f4)
  · have e1 : ns = [] := List.length_eq_zero_iff.1 f1
    have e4 : raw = [] := List.length_eq_zero_iff.1 (by omega)
    subst e1 e4 ht
    match us, f2, f6 with
    | [u], _, f6 =>
      match ts, f3, f8 with
      | [a, b], _, f8 =>
        have hu := f6 u (by simp)
        have h8 : tagB a = true := by
          rcases f8 with h | h
          · exact absurd rfl h
          · simpa using h
        unfold tagB at h8
        simp only [Bool.and_eq_true] at h8
        exact body_caa u a b og (by simp [most] at hu; omega) h8.2
      | [], f3, _ => simp at f3
      | [a], f3, _ => simp at f3
      | a :: b :: c :: r, f3, _ => simp at f3; omega
  · have e1 : ns = [] := List.length_eq_zero_iff.1 f1
    have e2 : us = [] := List.length_eq_zero_iff.1 f2
    have e3 : ts = [] := List.length_eq_zero_iff.1 (by omega)
    subst e1 e2 e3
    obtain ⟨h1, h2, h3, h4, h5, h6, h7, h8, h9, h10⟩ := ht
    have ewr : writeF t ⟨[], [], [], raw⟩ = raw := by
      unfold writeF
      rw [if_neg h6]
      simp [tsB, h9]
    rw [ewr] at hrw
    have hz2 : raw.length ≤ 65535 := by
      unfold sizesF at hz
      simp only at hz
      omega
    exact body_raw t raw og ⟨h1, h2⟩ (by simp [xkn, h1, h2, h3, h4, h5, h6, h7, h8, h9, h10]) (by omega) hb hrw
end Go.Proofs.YtfkfjodfjgjbkaaGreatDoor
/- The program's names: their text. -/
namespace Go.Proofs.YtfkfjodfjgjbkaaGreatDoor
open Go.ChangeShapes Go.WideShapes Go.ChangeAt Go.RowKit
set_option linter.unusedVariables false
set_option linter.unusedSimpArgs false


theorem strCells_eq (s : ByteArray) : Lib.strCells s = Lib.byteCells s.data.toList := by
  simp [Lib.strCells, Lib.byteCells]
set_option maxRecDepth 100000 in
set_option maxHeartbeats 1000000 in
theorem wstr (B b : Nat) (bs : List Value) (s : ByteArray) (w : World) (h : GS B w b bs) (hB : B ≤ b) (hs0 : 0 < s.size) (hl : bs.length + s.size ≤ 140737488355328) :
    Calls Tryz.prog 80 #[.pointer (some ⟨b, 0, none⟩), .string s] w fun e w' => e = .returned (.tuple #[.int .i64 s.size, .nilIface]) ∧ Hid (GS B w' b (bs ++ Lib.byteCells s.data.toList) ∧ Below B w w') := by
  have HG : Hid (GS B w b bs) := h
  have hcl : (Lib.byteCells s.data.toList).length = s.size := by rw [Lib.byteCells_length]; rfl
  have HCL : Hid ((Lib.byteCells s.data.toList).length = s.size) := hcl
  clear h hcl
  go_enter Tryz.func80, Tryz.ntmps80
  go_wp2_with fail
  refine (bcheck_any B b bs _ HG.out hB).mono ?_
  rintro e w1 ⟨rfl, H1⟩
  obtain ⟨v, h1, h2, h4⟩ := H1.out.1
  have HB1 : Hid (Below B w w1) := H1.out.2
  have HB : Hid (BB w1 b (.pointer (some ⟨b, 0, none⟩)) v ∧ w1.ownsRow B 5 1 v bs.length bs) := ⟨h1, h2⟩
  have c1 := h1.c1
  have hlt := h1.lt
  clear h1 h2 H1 HG
  obtain ⟨i5, hi, hz0, hz1, hz2⟩ := info_parts Tryz.info5
  have HI : Hid (Tryz.prog.info? 5 = some i5 ∧ i5.zero = some (.int .u8 0) ∧ i5.size = 1 ∧ i5.bytes = 1) := ⟨hi, hz0, hz1, hz2⟩
  clear hi hz0 hz1 hz2
  go_wp2_with (at_builtin; refine Lib.wpList_append_own_string _ rfl _ _ 27 9 rfl B 5 i5 Tryz.underlying27 Tryz.underlying9 HI.out.1 HI.out.2.1 HI.out.2.2.1 HI.out.2.2.2 v bs.length bs rfl HB.out.2 s rfl (by simp only [maxLen]; omega) (by omega) (by omega) ?_; intro v' w2 hown2 hgr2 hnil; obtain ⟨ao, cc, rfl⟩ := row_shape hown2; have hbk : Hid (w2.heap[b]? = w1.heap[b]?) := (hgr2.block b hlt (fun e => h4 e.symm)); have d1 := (HB.out.1.same hbk.out).c1; have d2 := (HB.out.1.same hbk.out).fz 1; have HG2 : Hid (w1.grownBy w2 v.ownBlock ∧ w2.ownsRow B 5 1 (.slice ao (bs.length + s.size) cc) (bs.length + s.size) (bs ++ Lib.byteCells s.data.toList)) := ⟨hgr2, by rw [← strCells_eq]; exact hown2⟩; clear hown2 hgr2 hnil)
  go_ret2
  have hb2 := HB.out.1.same hbk.out
  have hrow : ∀ g, v.ownBlock = some g → B ≤ g := fun g hg => (HB.out.2.lt g hg).1
  have hbel : Below B w1 w2 := (Below.refl B w1).grown HG2.out.1 (by omega) hrow
  have hne : (Value.slice ao (bs.length + s.size) cc).ownBlock ≠ some b := by
    intro e
    obtain ⟨_, hc | ⟨g, cap, cur, hv, _, hg, _⟩⟩ := HG2.out.2
    · rw [hc.1] at e; simp [Value.ownBlock] at e
    · rw [hv] at e
      have e2 : g = b := by simpa [Value.ownBlock] using e
      rw [e2] at hg
      have hb3 : w2.heap[b]? = _ := hb2
      rw [hb3] at hg
      injection hg with hg
      injection hg with _ hg _
      exact absurd hg (by decide)
  have hn2 : bs ++ Lib.byteCells s.data.toList ≠ [] := by
    intro e
    have := congrArg List.length e
    rw [List.length_append, HCL.out, List.length_nil] at this
    omega
  refine ⟨rfl, .inr ⟨⟨.slice ao (bs.length + s.size) cc, ?_, ?_, hne⟩, hn2⟩, HB1.out.trans (hbel.setCell hB _)⟩
  · have := heap_set hb2 1 (.slice ao (bs.length + s.size) cc)
    simpa [BB] using this
  · have := row_set HG2.out.2 hne 1 (.slice ao (bs.length + s.size) cc)
    rw [List.length_append, HCL.out]
    exact this
theorem cells_append (a b : ByteArray) : Lib.byteCells (a ++ b).data.toList = Lib.byteCells a.data.toList ++ Lib.byteCells b.data.toList := by
  simp [Lib.byteCells]
theorem tb_pos (s : ByteArray) (h : 1 ≤ s.size) : 0 < (tb s).size := by
  have e : (tb s).size = (tx (nums s)).length := txt_size _
  have hl := nums_len s
  rw [e]
  cases hn : nums s with
  | nil => rw [hn] at hl; simp at hl; omega
  | cons x l =>
    have := (tx1_len x).2
    simp only [tx, List.flatMap_cons, List.length_append]
    omega
set_option maxRecDepth 100000 in
set_option maxHeartbeats 1000000 in
theorem ptext_any (a : Option Addr) (n c : Nat) (ss : List ByteArray) (w : World) (h : Nm w a n ss) : Calls Tryz.prog 100 #[.slice a n c] w fun e w' => e = .returned (.tuple #[.string (ntext ss).1, .int .i64 (ntext ss).2]) ∧ Hid (Below w.heap.size w w') := by
  have KC : Hid (Calls Tryz.prog 25 #[.slice a n c] w fun e w' => e = .returned (.int .i64 (nck ss)) ∧ w' = w) := pm_check c h
  have HN : Hid (Nm w a n ss) := h
  have hn := h.n63
  have HL : Hid (ss.length = n) := h.len
  by_cases hk : nck ss = 0
  · rw [hk] at KC
    have hsm := (nck_small hk).1
    have HLB : Hid (∀ s ∈ ss, 1 ≤ s.size) := fun s hs => (chk_ok ((nck_small hk).2 s hs)).1
    by_cases h0 : n = 0
    · have hp : ntext ss = (⟨#[46]⟩, 0) := by unfold ntext; rw [if_pos hk, if_pos (by rw [h.len]; exact h0)]
      rw [hp]
      subst h0
      clear h hk hp
      go_enter Tryz.func100, Tryz.ntmps100
      go_wp2_with fail
      refine KC.out.mono ?_
      rintro e w1 ⟨rfl, rfl⟩
      go_wp2
      go_ret2
      exact ⟨rfl, Below.refl _ _⟩
    · have hp : ntext ss = (ntxt ss, 0) := by unfold ntext; rw [if_pos hk, if_neg (by rw [h.len]; exact h0)]
      rw [hp]
      have h0' : ((n : Int) == 0) = false := by simp; omega
      have HSZ : Hid (∀ k, k ≤ ss.length → (ntxt (ss.take k)).size ≤ 1020) := fun k hk => by have := ntxt_size ss k hk; omega
      obtain ⟨R, hR⟩ : ∃ R, ntxt ss = R := ⟨_, rfl⟩
      have HRR : Hid (ntxt ss = R) := hR
      rw [hR]
      clear h hk hp hR
      have H0 : Hid (GS w.heap.size (w.alloc (.cells #[.pointer none, .slice none 0 0] 81)) w.heap.size [] ∧ Below w.heap.size w (w.alloc (.cells #[.pointer none, .slice none 0 0] 81))) := ⟨GS.fresh w, (Below.refl _ _).alloc (Nat.le_refl _) _⟩
      go_enter Tryz.func100, Tryz.ntmps100
      go_wp2_with fail
      refine KC.out.mono ?_
      rintro e w1 ⟨rfl, rfl⟩
      go_wp2_with fail
      go_loopw [18] (fun x wr => ∃ (k : Nat) (t : ByteArray), k ≤ n ∧ x = .int .i64 k ∧ t.size ≤ 1020 ∧ Hid (ntxt (ss.take k) = t) ∧ Hid (GS w1.heap.size wr w1.heap.size (Lib.byteCells t.data.toList) ∧ Below w1.heap.size w1 wr)) (fun x _ => n - (intOf x).toNat)
      case atStart => exact ⟨0, ⟨#[]⟩, Nat.zero_le _, rfl, by decide, rfl, H0⟩
      case round =>
        clear H0
        obtain ⟨k, t, hkn, rfl, htz, HT, HB⟩ := hrel
        by_cases hlt : k < n
        · have hlt' : (k : Int) < (n : Int) := by omega
          have hks : k < ss.length := by rw [HL.out]; exact hlt
          obtain ⟨b, o, rfl, hb, hc⟩ := (HN.out.below HB.out.2).rd.at k hks
          have hsz := Nat.le_trans (nsz_mem ss _ (List.getElem_mem hks)) hsm
          have HT2 : Hid (ntxt (ss.take (k + 1)) = t ++ tb ss[k] ++ ⟨#[46]⟩) := by show _ = _; rw [take_snocT ss k hks, ntxt_snoc, HT.out]
          have hz2 := HSZ.out (k + 1) (by omega)
          rw [HT2.out] at hz2
          have KT : Hid (∀ W, Calls Tryz.prog 128 #[.string ss[k]] W fun e w' => e = .returned (.string (tb ss[k])) ∧ Hid (Below W.heap.size W w')) := fun W => text_any ss[k] W (by omega)
          have htb : (tb ss[k]).size ≤ 1020 := by have := tb_size ss[k]; omega
          have htp : 0 < (tb ss[k]).size := tb_pos _ (HLB.out _ (List.getElem_mem hks))
          generalize tb ss[k] = f at *
          generalize ss[k] = s at *
          have KW1 : Hid (∀ W, GS w1.heap.size W w1.heap.size (Lib.byteCells t.data.toList) → Calls Tryz.prog 80 #[.pointer (some ⟨w1.heap.size, 0, none⟩), .string f] W fun e w' => e = .returned (.tuple #[.int .i64 f.size, .nilIface]) ∧ Hid (GS w1.heap.size w' w1.heap.size (Lib.byteCells (t ++ f).data.toList) ∧ Below w1.heap.size W w')) := fun W hW => by
            have := wstr w1.heap.size w1.heap.size _ f W hW (Nat.le_refl _) htp (by rw [Lib.byteCells_length]; have : t.data.toList.length = t.size := rfl; omega)
            rw [← cells_append] at this
            exact this
          have KW2 : Hid (∀ W, GS w1.heap.size W w1.heap.size (Lib.byteCells (t ++ f).data.toList) → Calls Tryz.prog 80 #[.pointer (some ⟨w1.heap.size, 0, none⟩), .string ⟨#[46]⟩] W fun e w' => e = .returned (.tuple #[.int .i64 1, .nilIface]) ∧ Hid (GS w1.heap.size w' w1.heap.size (Lib.byteCells (t ++ f ++ ⟨#[46]⟩).data.toList) ∧ Below w1.heap.size W w')) := fun W hW => by
            have := wstr w1.heap.size w1.heap.size _ ⟨#[46]⟩ W hW (Nat.le_refl _) (by decide) (by rw [Lib.byteCells_length]; have : (t ++ f).data.toList.length = (t ++ f).size := rfl; rw [this, ByteArray.size_append]; show _ + 1 ≤ _; omega)
            rw [← cells_append] at this
            exact this
          go_wp2_with fail
          refine (KT.out _).mono ?_
          rintro e w2 ⟨rfl, H2⟩
          have HG2 : Hid (GS w1.heap.size w2 w1.heap.size (Lib.byteCells t.data.toList) ∧ Below w1.heap.size w1 w2) := by
            refine ⟨?_, HB.out.2.trans (H2.out.mono HB.out.2.size)⟩
            rcases HB.out.1 with ⟨g1, g2⟩ | ⟨⟨v, g1, g2, g3⟩, g4⟩
            · exact .inl ⟨g1.same (H2.out.block _ g1.lt), g2⟩
            · exact .inr ⟨⟨v, g1.same (H2.out.block _ g1.lt), g2.kept (row := none) ⟨H2.out.os, H2.out.tape, H2.out.output, H2.out.size, fun k hk _ => H2.out.block k hk⟩ (by rcases hv : v.ownBlock with _ | g; exact .inl rfl; exact .inr (by simp)), g3⟩, g4⟩
          clear hc KT HB H2
          go_wp2_with fail
          refine (KW1.out _ HG2.out.1).mono ?_
          rintro e w3 ⟨rfl, H3⟩
          go_wp2_with fail
          refine (KW2.out _ H3.out.1).mono ?_
          rintro e w4 ⟨rfl, H4⟩
          go_wp2
          refine ⟨⟨k + 1, _, by omega, by go_num, hz2, HT2, H4.out.1, (HG2.out.2.trans H3.out.2).trans H4.out.2⟩, by simp [intOf]; omega⟩
        · have hge : (n : Int) ≤ (k : Int) := by omega
          have e : t = R := by rw [← HT.out, ← HRR.out, List.take_of_length_le (by rw [HL.out]; omega)]
          subst e
          go_wp2_with fail
          refine (wstring w1.heap.size w1.heap.size t.data.toList _ HB.out.1 (by have : t.data.toList.length = t.size := rfl; omega)).mono ?_
          rintro e w2 ⟨rfl, H2⟩
          go_wp2
          go_ret2
          exact ⟨rfl, HB.out.2.trans H2.out⟩
  · have hp : ntext ss = (⟨#[]⟩, nck ss) := by unfold ntext; rw [if_neg hk]
    rw [hp]
    generalize nck ss = q at *
    have hq : (q != 0) = true := bne_iff_ne.2 hk
    clear h hk hp
    go_enter Tryz.func100, Tryz.ntmps100
    go_wp2_with fail
    refine KC.out.mono ?_
    rintro e w1 ⟨rfl, rfl⟩
    go_wp2
    go_ret2
    exact ⟨rfl, Below.refl _ _⟩
end Go.Proofs.YtfkfjodfjgjbkaaGreatDoor
/- Noughts behind a list: append of a list that make has made, as a list of bytes is appended. -/
namespace Go.Proofs.YtfkfjodfjgjbkaaGreatDoor
open Go.ChangeShapes Go.WideShapes Go.ChangeAt Go.RowKit
set_option linter.unusedVariables false
set_option linter.unusedSimpArgs false

def zstr (k : Nat) : ByteArray := ⟨Array.replicate k 0⟩
theorem zstr_size (k : Nat) : (zstr k).size = k := by show (Array.replicate k (0 : UInt8)).size = k; simp
theorem zstr_nums (k : Nat) : nums (zstr k) = List.replicate k 0 := by unfold nums zstr; simp
set_option maxRecDepth 100000 in
set_option maxHeartbeats 1000000 in
theorem zeros_as (w : World) (ty : TypeId) (base : Option Addr) (sLen sCap k : Nat) (hk : k ≤ 1000) (hs : sLen ≤ 1000000) :
    (Builtin.append_ #[27, 3] ty #[.slice base sLen sCap, .int .i64 (k : Int)]).run Tryz.prog w = (Builtin.append_ #[27, 9] ty #[.slice base sLen sCap, .string (zstr k)]).run Tryz.prog w := by
  obtain ⟨i, hi, hz0, hz1, hz2⟩ := info_parts Tryz.info5
  have hw : IntKind.i64.wrap (k : Int) = k := by rw [IntKind.wrap_i64]; omega
  have hneg : ¬ ((k : Int) < 0) := by omega
  have h48 : ¬ (281474976710656 < (k : Int) * (i.bytes : Int)) := by rw [hz2]; omega
  have h48k : ¬ (281474976710656 < (k : Int)) := by omega
  have h63' : ¬ (9223372036854775807 < ((sLen : Int) + (k : Int))) := by omega
  have e1 : ∀ W, (Builtin.firstCells 1 k (.string (zstr k))).run Tryz.prog W = .ok (Array.replicate k (.int .u8 0)) W := fun W => by
    have := firstCells_string (P := Tryz.prog) (zstr k) W
    rw [zstr_size] at this
    rw [this]
    congr 1
    apply Array.ext'
    simp [byteCells, zstr]
  have e2 : Builtin.zeroCells (Value.int .u8 0).cells k = Array.replicate k (.int .u8 0) := by rw [zeros_eq]; simp
  have e3 : ∀ W : World, (if k * 1 = 0 then (pure #[] : Sem (Array Value)) else pure (Array.replicate k (.int .u8 0))).run Tryz.prog W = .ok (Array.replicate k (.int .u8 0)) W := fun W => by
    split
    · next h => have : k = 0 := by omega
                subst this; rfl
    · rfl
  have hw0 : IntKind.i64.wrap 0 = 0 := by rfl
  by_cases hr : sLen + k ≤ sCap
  · by_cases h0 : k = 0
    · subst h0
      have hr0 : sLen ≤ sCap := hr
      simp [Builtin.append_, run_underlying Tryz.underlying27, run_underlying Tryz.underlying3, run_underlying Tryz.underlying9, sizeOf, typeInfo, zeroValue, hi, hz0, hz1, hz2, asInt, asIntOf, hw, hneg, h48, h63', h48k, Builtin.lenOf, zstr_size, e1, e2, hw0, hr0]
    · simp [Builtin.append_, run_underlying Tryz.underlying27, run_underlying Tryz.underlying3, run_underlying Tryz.underlying9, sizeOf, typeInfo, zeroValue, hi, hz0, hz1, hz2, asInt, asIntOf, hw, hneg, h48, h63', h48k, Builtin.lenOf, zstr_size, e1, e2, h0, hr]
  · have hfit : ¬ 281474976710656 < Builtin.nextslicecap (sLen + k) sCap := by
      have := nextslicecap_le (need := sLen + k) (old := sCap) (by omega)
      omega
    by_cases h0 : k = 0
    · subst h0
      have hr0 : ¬ sLen ≤ sCap := hr
      have hfit0 : ¬ 281474976710656 < Builtin.nextslicecap sLen sCap := hfit
      have h630 : ¬ (9223372036854775807 < (sLen : Int)) := by omega
      simp [Builtin.append_, run_underlying Tryz.underlying27, run_underlying Tryz.underlying3, run_underlying Tryz.underlying9, sizeOf, typeInfo, zeroValue, hi, hz0, hz1, hz2, asInt, asIntOf, hw, hneg, h48, h63', h48k, Builtin.lenOf, zstr_size, e1, e2, hw0, hr0, hfit0, h630]
    · simp [Builtin.append_, run_underlying Tryz.underlying27, run_underlying Tryz.underlying3, run_underlying Tryz.underlying9, sizeOf, typeInfo, zeroValue, hi, hz0, hz1, hz2, asInt, asIntOf, hw, hneg, h48, h63', h48k, Builtin.lenOf, zstr_size, e1, e2, h0, hr, hfit]
theorem wpList_append_zeros (w : World) {ops : Array Oper} {rest : List Oper} {o : Oper} {a : Act} {Q : Exit → Act → World → Prop} (hgd : o.guard = none) (s x : Operand)
    (ho : o.op = .call { callee := .builtin .append, args := #[s, x], argTypes := #[27, 3] }) (B : Nat) (v : Value) (n : Nat) (zs : List Int) (hs : a.eval s = v) (hown : Own B w v n zs)
    (k : Nat) (X : Int) (hx : a.eval x = .int .i64 X) (hX : X = (k : Int)) (hk : k ≤ 1000) (hn : n ≤ 1000000) (hB : B ≤ w.heap.size)
    (h : ∀ v' w' zs', Hid (Own B w' v' (n + k) zs') → Hid (zs'.take (n + k) = zs.take n ++ List.replicate k 0) → w.grownBy w' v.ownBlock → wpList Tryz.prog ops Q rest (a.put o.dst v') w') : wpList Tryz.prog ops Q (o :: rest) a w := by
  subst hX
  obtain ⟨ao, rfl, hA⟩ := hown.addr
  have hV : OwnV B w 5 (.slice ao n zs.length) n (zs.map (Value.int .u8)) := by
    rcases hown with ⟨h1, h2, h3⟩ | ⟨g, h1, h2, h3, h4, h5⟩
    · subst h3; injection h1 with h1 _ _; subst h1; subst h2; exact .inl ⟨rfl, rfl, rfl⟩
    · exact .inr ⟨g, by rw [h1]; simp, h2, h3.1, by simpa using h4, by simpa using h5⟩
  obtain ⟨v', w', xs', hr, h1, h2, h3, h4, h5⟩ := run_append_row tyB w B 9 o.type _ n _ hV (.string (zstr k)) k _ (by have := Src.ofString (P := Tryz.prog) w (tx := 9) Tryz.underlying9 (zstr k); rw [zstr_size] at this; exact this) (by simp; omega) (by simp only [maxLen]; omega) hB
  rw [← zeros_as w o.type ao n zs.length k hk hn] at hr
  have hb : byteCells (zstr k) = (List.replicate k (0 : Int)).map (Value.int .u8) := by simp [byteCells, zstr]
  obtain ⟨zs', e1, e2⟩ := bytes_of xs' (h4 QB ⟨0, rfl, by omega, by omega⟩ (by
    intro u hu
    obtain ⟨z, hz, rfl⟩ := List.mem_map.1 hu
    exact ⟨z, rfl, (rd_all hA.rd) z hz⟩) (by
    rw [hb]
    intro u hu
    obtain ⟨z, hz, rfl⟩ := List.mem_map.1 hu
    rw [List.mem_replicate] at hz
    exact ⟨z, rfl, by omega, by omega⟩))
  subst e1
  refine Lib.wpList_append_run w hgd s x 27 3 ho _ _ hs hx v' w' hr (h v' w' zs' ?_ ?_ h3)
  · rcases h1 with ⟨g1, g2, g3⟩ | ⟨g, g1, g2, g3, g4, g5⟩
    · have : zs' = [] := by simpa using g3
      subst this
      exact .inl ⟨g1, g2, rfl⟩
    · exact .inr ⟨g, by rw [g1]; simp, g2, ⟨g3, e2⟩, by simpa using g4, by simpa using g5⟩
  · rw [hb, ← List.map_take, ← List.map_take, ← List.map_append] at h2
    exact int_inj h2
end Go.Proofs.YtfkfjodfjgjbkaaGreatDoor
/- Addresses, as the program reads them. -/
namespace Go.Proofs.YtfkfjodfjgjbkaaGreatDoor
open Go.ChangeShapes Go.WideShapes Go.ChangeAt Go.RowKit Go.Sort
set_option linter.unusedVariables false
set_option linter.unusedSimpArgs false

theorem xsplit_len (c : Int) (l : List Int) : ∀ p ∈ xsplit c l, p.length ≤ l.length := by
  induction l with
  | nil => intro p hp; simp [xsplit] at hp; subst hp; simp
  | cons x l ih =>
    intro p hp
    simp only [xsplit] at hp
    split at hp
    · rcases List.mem_cons.1 hp with rfl | hp
      · simp
      · have := ih p hp; simp; omega
    · split at hp
      · simp at hp; subst hp; simp
      · next q qs hq =>
        rcases List.mem_cons.1 hp with rfl | hp
        · have := ih q (by rw [hq]; simp); simp; omega
        · have := ih p (by rw [hq]; simp [hp]); simp; omega
theorem xsplit_many (c : Int) (l : List Int) : (xsplit c l).length ≤ l.length + 1 ∧ 1 ≤ (xsplit c l).length := by
  induction l with
  | nil => simp [xsplit]
  | cons x l ih =>
    simp only [xsplit]
    split
    · simp; omega
    · split
      · simp
      · next q qs hq => rw [hq] at ih; simp at ih ⊢; omega
def SplitPost (c : UInt8) (s : ByteArray) (w : World) (e : Ending) (w' : World) : Prop :=
  ∃ ps, e = .returned (.slice (some ⟨w.heap.size, 0, none⟩) ps.length ps.length) ∧ ps.length ≤ s.size + 1 ∧ Hid (ps.map nums = xsplit c.toNat (nums s)) ∧ Hid (RdT w' (some ⟨w.heap.size, 0, none⟩) ps) ∧ Hid (Below w.heap.size w w') ∧ Hid (∀ p ∈ ps, p.size ≤ s.size)
theorem split_any (c : UInt8) (s : ByteArray) (w : World) (hs : s.size < 4294967281) (hE : LayE w) : Calls Tryz.prog 95 #[.string s, .string ⟨#[c]⟩] w (SplitPost c s w) := by
  obtain ⟨_, _, _, m, hm⟩ := hE
  refine (Tryz.strings_Split s ⟨#[c]⟩ m w hs hm (show 1 ≤ 1 from Nat.le_refl _)).mono ?_
  rintro e w' ⟨rfl, rfl⟩
  have hx : (Lib.splitB ⟨#[c]⟩ 0 (Lib.countB s ⟨#[c]⟩) s).map nums = xsplit c.toNat (nums s) := split_b c s
  have hl := splitB_len c s
  generalize Lib.splitB ⟨#[c]⟩ 0 (Lib.countB s ⟨#[c]⟩) s = ps at *
  refine ⟨ps, by rw [hl], ?_, hx, ?_, (Below.refl _ _).alloc (Nat.le_refl _) _, ?_⟩
  · have := (xsplit_many c.toNat (nums s)).1
    rw [← hx, List.length_map, nums_len] at this
    exact this
  · have := (show BlkV (w.alloc (.cells (tv ps).toArray 9)) w.heap.size 9 (tv ps) from heap_alloc_new _ _).rd (tv ps).length
    rw [List.take_length] at this
    exact this
  · intro p hp
    have := xsplit_len c.toNat (nums s) (nums p) (by rw [← hx]; exact List.mem_map_of_mem hp)
    rw [nums_len, nums_len] at this
    exact this
theorem mapM_snoc {α β : Type} (f : α → Option β) (l : List α) (ns : List β) (x : α) (h : l.mapM f = some ns) : (l ++ [x]).mapM f = (f x).map (fun y => ns ++ [y]) := by
  induction l generalizing ns with
  | nil =>
    simp at h; subst h
    simp [List.mapM_cons]
    cases f x <;> rfl
  | cons a l ih =>
    rw [List.mapM_cons] at h
    rw [List.cons_append, List.mapM_cons]
    cases ha : f a with
    | none => rw [ha] at h; cases h
    | some b =>
      rw [ha] at h
      cases hl : l.mapM f with
      | none => rw [hl] at h; cases h
      | some bs =>
        rw [hl] at h
        injection h with h
        subst h
        rw [ih bs hl]
        cases f x <;> rfl
theorem mapM_bad {α β : Type} (f : α → Option β) (l : List α) (x : α) (r : List α) (h : f x = none) : (l ++ x :: r).mapM f = none := by
  induction l with
  | nil => rw [List.nil_append, List.mapM_cons, h]; rfl
  | cons a l ih =>
    rw [List.cons_append, List.mapM_cons, ih]
    cases f a <;> rfl
theorem take_cons (l : List ByteArray) (k : Nat) (h : k < l.length) : l = l.take k ++ l[k] :: l.drop (k + 1) := by
  rw [← List.drop_eq_getElem_cons h, List.take_append_drop]
/-- Bytes that were read, or none. -/
def ByPost (o : Option (List Int)) (w : World) (e : Ending) (w' : World) : Prop :=
  (∀ out, o = some out → ∃ v ys, e = .returned (.tuple #[v, .bool true]) ∧ Hid (Own w.heap.size w' v out.length ys ∧ ys.take out.length = out ∧ Below w.heap.size w w')) ∧
  (o = none → e = .returned (.tuple #[.slice none 0 0, .bool false]) ∧ Hid (Below w.heap.size w w'))
theorem new_rd2 (w : World) (a b : Int) (ha : 0 ≤ a ∧ a ≤ 255) (hb : 0 ≤ b ∧ b ≤ 255) : Rd (w.alloc (.cells #[.int .u8 a, .int .u8 b] 5)) (some ⟨w.heap.size, 0, none⟩) [a, b] := by
  refine ⟨.inr ⟨w.heap.size, 0, rfl, by simp, fun i hi => ?_⟩, ?_⟩
  · unfold World.cell?
    rw [heap_alloc_new]
    match i, hi with
    | 0, _ => rfl
    | 1, _ => rfl
  · intro z hz
    simp at hz
    rcases hz with rfl | rfl
    · exact ha
    · exact hb
theorem Own.mono {B B' : Nat} {w : World} {v : Value} {n : Nat} {zs : List Int} (h : Own B w v n zs) (hB : B' ≤ B) : Own B' w v n zs := by
  rcases h with h | ⟨g, h1, h2, h3⟩
  · exact .inl h
  · exact .inr ⟨g, h1, Nat.le_trans hB h2, h3⟩
set_option maxRecDepth 100000 in
set_option maxHeartbeats 4000000 in
theorem pairs_any (s : ByteArray) (w : World) (hs : s.size < 4294967281) (hE : LayE w) : Calls Tryz.prog 99 #[.string s] w (ByPost (xgrps (nums s)) w) := by
  have HE : Hid (LayE w) := hE
  clear hE
  by_cases h0 : s.size = 0
  · have e := ba_nil (s := s) (List.length_eq_zero_iff.1 h0)
    subst e
    clear HE
    go_enter Tryz.func99, Tryz.ntmps99
    go_wp2_with fail
    go_ret2
    refine ⟨fun out h => ⟨_, [], rfl, ?_⟩, fun h => ?_⟩
    · have e : out = [] := by
        have : xgrps (nums ⟨#[]⟩) = some [] := rfl
        rw [this] at h; injection h with h; exact h.symm
      subst e
      exact ⟨.inl ⟨rfl, rfl, rfl⟩, rfl, Below.refl _ _⟩
    · have : xgrps (nums ⟨#[]⟩) = some [] := rfl
      rw [this] at h; cases h
  · have hne : (s.toList == []) = false := by
      rw [ByteArray.toList_eq]
      cases h : s.data.toList with
      | nil => exact absurd (show s.size = 0 by have : s.data.toList.length = s.size := rfl; rw [h] at this; exact this.symm) h0
      | cons a l => rfl
    have HG : Hid (xgrps (nums s) = ((xsplit 58 (nums s)).mapM xgrp).map fun ns => ns.flatMap xby) := by
      show _ = _
      unfold xgrps
      rw [if_neg]
      intro e
      have := nums_len s
      rw [e] at this
      exact h0 this.symm
    go_enter Tryz.func99, Tryz.ntmps99
    go_wp2_with fail
    refine (split_any 58 s w hs HE.out).mono ?_
    rintro e w1 ⟨ps, rfl, hpl, HX, HR, HB, HZ⟩
    have HG2 : Hid (xgrps (nums s) = ((ps.map nums).mapM xgrp).map fun ns => ns.flatMap xby) := by rw [HX.out]; exact HG.out
    clear HG HX
    go_wp2_with fail
    go_loopw [4, 14] (fun v x wr => ∃ (k : Nat) (ns : List Nat), k ≤ ps.length ∧ x = .int .i64 k ∧ Hid (((ps.take k).map nums).mapM xgrp = some ns ∧ ns.length = k) ∧ Hid (∃ ys, Own w1.heap.size wr v (2 * k) ys ∧ ys.take (2 * k) = ns.flatMap xby) ∧ Hid (Below w1.heap.size w1 wr)) (fun _ x _ => ps.length - (intOf x).toNat)
    case atStart => exact ⟨0, [], Nat.zero_le _, rfl, ⟨rfl, rfl⟩, ⟨[], .inl ⟨rfl, rfl, rfl⟩, rfl⟩, Below.refl _ _⟩
    case round =>
      obtain ⟨k, ns, hk, rfl, HN, HW, HB2⟩ := hrel
      by_cases hlt : k < ps.length
      · have hlt' : (k : Int) < (ps.length : Int) := by omega
        obtain ⟨b, o, hbo, hb, hc⟩ := (HR.out.below HB2.out).at k hlt
        injection hbo with hbo
        injection hbo with hb1 ho1
        subst hb1; subst ho1
        rw [Nat.zero_add] at hc
        have hpz := HZ.out ps[k] (List.getElem_mem hlt)
        have HE2 := Lib.hid (HE.out.below (HB.out.trans (HB2.out.mono HB.out.size)))
        have HP : Hid (∀ u, xgrp (nums ps[k]) = some u → ((ps.take (k + 1)).map nums).mapM xgrp = some (ns ++ [u])) := by
          intro u hu
          rw [take_snocT ps k hlt, List.map_append]
          have := mapM_snoc xgrp _ ns (nums ps[k]) HN.out.1
          rw [hu] at this
          exact this
        have HQ : Hid (xgrp (nums ps[k]) = none → xgrps (nums s) = none) := by
          intro hu
          rw [HG2.out]
          have e := congrArg (List.map nums) (take_cons ps k hlt)
          rw [List.map_append, List.map_cons] at e
          rw [e, mapM_bad xgrp _ _ _ hu]
          rfl
        generalize ps[k] = p at *
        by_cases hok : ∃ u, puH p.data.toList = .ok u
        · obtain ⟨u, hu⟩ := hok
          have K := Lib.hid (fun W => pu16_ok p (by omega) u hu W)
          have hu2 : u ≤ 65535 := by
            unfold puH at hu
            split at hu
            · cases hu
            · exact puX_lt _ 0 u (by omega) hu
          by_cases h4 : p.size ≤ 4
          · have h4' : ¬ (4 : Int) < (p.size : Int) := by omega
            have hg := (puH_grp p.data.toList u).1 ⟨hu, h4⟩
            have HNS := Lib.hid (HP.out u hg)
            clear hu hg HP HQ
            have hw1 : IntKind.u8.wrap (u : Int) = ((u % 256 : Nat) : Int) := by rw [IntKind.wrap_u8]; omega
            have hw2 : IntKind.u8.wrap ((u : Int) / 256) = ((u / 256 : Nat) : Int) := by rw [IntKind.wrap_u8]; omega
            go_wp2_with fail
            refine (K.out _).mono ?_
            rintro e w2 ⟨rfl, H2⟩
            obtain ⟨ys, hO, hT⟩ := HW.out
            have hnb : Below w2.heap.size w2 (w2.alloc (.cells #[.int .u8 ((u : Int) / 256), .int .u8 ((u : Int) % 256)] 5)) := (Below.refl _ _).alloc (Nat.le_refl _) _
            have HO2 : Hid (Own w1.heap.size (w2.alloc (.cells #[.int .u8 ((u : Int) / 256), .int .u8 ((u : Int) % 256)] 5)) u4 (2 * k) ys ∧ ys.take (2 * k) = ns.flatMap xby) := ⟨(hO.below H2.out).below hnb, hT⟩
            have HR2 : Hid (Rd (w2.alloc (.cells #[.int .u8 ((u : Int) / 256), .int .u8 ((u : Int) % 256)] 5)) (some ⟨w2.heap.size, 0, none⟩) [(u : Int) / 256, (u : Int) % 256]) := new_rd2 w2 _ _ (by omega) (by omega)
            have HNB : Hid (Below w2.heap.size w2 (w2.alloc (.cells #[.int .u8 ((u : Int) / 256), .int .u8 ((u : Int) % 256)] 5))) := hnb
            have HB3 : Hid (Below w1.heap.size w1 w2) := HB2.out.trans (H2.out.mono HB2.out.size)
            clear hO hT hnb HW H2 HB2
            go_wp2_with (at_builtin; refine wpList_append_blk _ rfl _ _ rfl w1.heap.size _ (2 * k) ys rfl HO2.out.1 (some ⟨w2.heap.size, 0, none⟩) 2 2 [(u : Int) / 256, (u : Int) % 256] rfl HR2.out rfl (by simp) (by omega) (Nat.le_trans HB3.out.size HNB.out.size) ?_; intro v' w' ys' hO' hT' hG')
            have hrow := HO2.out.1.lt
            refine ⟨⟨k + 1, ns ++ [u], by omega, by go_num, ⟨HNS.out, by rw [List.length_append, HN.out.2]; rfl⟩, ⟨ys', ?_, ?_⟩, ?_⟩, by simp [intOf]; omega⟩
            · exact hO'.out
            · rw [show 2 * (k + 1) = 2 * k + 2 by omega, hT'.out, HO2.out.2, List.flatMap_append]
              simp [xby]
            · exact (HB3.out.trans (HNB.out.mono HB3.out.size)).grown hG' (Nat.le_trans HB3.out.size HNB.out.size) hrow
          · have h4' : (4 : Int) < (p.size : Int) := by omega
            have HQ2 := Lib.hid (HQ.out (by
              cases hx : xgrp (nums p) with
              | none => rfl
              | some v => exact absurd ((puH_grp p.data.toList v).2 hx).2 h4))
            clear hu HP HQ
            go_wp2_with fail
            refine (K.out _).mono ?_
            rintro e w2 ⟨rfl, H2⟩
            have HB3 : Hid (Below w.heap.size w w2) := HB.out.trans ((HB2.out.trans (H2.out.mono HB2.out.size)).mono HB.out.size)
            go_wp2_with fail
            go_ret2
            exact ⟨fun out h => (by rw [HQ2.out] at h; cases h), fun _ => ⟨rfl, HB3.out⟩⟩
        · have K := Lib.hid (pu16_no p (by omega) (fun u hu => hok ⟨u, hu⟩) wr HE2.out)
          have HQ2 := Lib.hid (HQ.out (by
            cases hx : xgrp (nums p) with
            | none => rfl
            | some v => exact absurd ⟨v, ((puH_grp p.data.toList v).2 hx).1⟩ hok))
          clear hok HP HQ
          go_wp2_with fail
          refine K.out.mono ?_
          rintro e w2 ⟨x, N, rfl, H2⟩
          have HB3 : Hid (Below w.heap.size w w2) := HB.out.trans ((HB2.out.trans (H2.out.mono HB2.out.size)).mono HB.out.size)
          go_wp2_with fail
          go_ret2
          exact ⟨fun out h => (by rw [HQ2.out] at h; cases h), fun _ => ⟨rfl, HB3.out⟩⟩
      · have hge : ¬ (k : Int) < (ps.length : Int) := by omega
        have HF : Hid (xgrps (nums s) = some (ns.flatMap xby)) := by
          show _ = _
          have := HN.out.1
          rw [List.take_of_length_le (by omega)] at this
          rw [HG2.out, this]; rfl
        have HB3 : Hid (Below w.heap.size w wr) := HB.out.trans (HB2.out.mono HB.out.size)
        go_wp2_with fail
        go_ret2
        refine ⟨fun out h => ?_, fun h => (by rw [HF.out] at h; cases h)⟩
        rw [HF.out] at h
        injection h with h
        subst h
        obtain ⟨ys, hO, hT⟩ := HW.out
        have hl : (ns.flatMap xby).length = 2 * k := by rw [xby_len, HN.out.2]
        rw [hl]
        exact ⟨_, ys, rfl, hO.mono HB.out.size, hT, HB3.out⟩

set_option maxRecDepth 100000 in
set_option maxHeartbeats 4000000 in
theorem short_any (s : ByteArray) (w : World) (hs : s.size < 4294967281) (hE : LayE w) : Calls Tryz.prog 64 #[.string s] w (ByPost (xfour (nums s)) w) := by
  have HE : Hid (LayE w) := hE
  clear hE
  go_enter Tryz.func64, Tryz.ntmps64
  go_wp2_with fail
  refine (split_any 46 s w hs HE.out).mono ?_
  rintro e w1 ⟨ps, rfl, hpl, HX, HR, HB, HZ⟩
  have HG2 : Hid (xfour (nums s) = ((ps.map nums).mapM fun p => xnum p 256).bind fun a => if a.length = 4 then some (a.map Int.ofNat) else none) := by show _ = _; rw [HX.out]; rfl
  clear HX
  by_cases h4 : ps.length = 4
  · have h4b : ((ps.length : Int) != 4) = false := by simp; omega
    have H4 : Hid (ps.length = 4) := h4
    clear h4
    go_wp2_with fail
    go_loopw [5, 17] (fun v x wr => ∃ (k : Nat) (ns : List Nat), k ≤ ps.length ∧ x = .int .i64 k ∧ Hid (((ps.take k).map nums).mapM (fun p => xnum p 256) = some ns ∧ ns.length = k) ∧ Hid (∃ ys, Own w1.heap.size wr v k ys ∧ ys.take k = ns.map Int.ofNat) ∧ Hid (Below w1.heap.size w1 wr)) (fun _ x _ => ps.length - (intOf x).toNat)
    case atStart => exact ⟨0, [], Nat.zero_le _, rfl, ⟨rfl, rfl⟩, ⟨[], .inl ⟨rfl, rfl, rfl⟩, rfl⟩, Below.refl _ _⟩
    case round =>
      obtain ⟨k, ns, hk, rfl, HN, HW, HB2⟩ := hrel
      by_cases hlt : k < ps.length
      · have hlt' : (k : Int) < (ps.length : Int) := by omega
        obtain ⟨b, o, hbo, hb, hc⟩ := (HR.out.below HB2.out).at k hlt
        injection hbo with hbo
        injection hbo with hb1 ho1
        subst hb1; subst ho1
        rw [Nat.zero_add] at hc
        have hpz := HZ.out ps[k] (List.getElem_mem hlt)
        have HE2 := Lib.hid (HE.out.below (HB.out.trans (HB2.out.mono HB.out.size)))
        have HP : Hid (∀ u, xnum (nums ps[k]) 256 = some u → ((ps.take (k + 1)).map nums).mapM (fun p => xnum p 256) = some (ns ++ [u])) := by
          intro u hu
          rw [take_snocT ps k hlt, List.map_append]
          have := mapM_snoc (fun p => xnum p 256) _ ns (nums ps[k]) HN.out.1
          rw [hu] at this
          exact this
        have HQ : Hid (xnum (nums ps[k]) 256 = none → xfour (nums s) = none) := by
          intro hu
          rw [HG2.out]
          have e := congrArg (List.map nums) (take_cons ps k hlt)
          rw [List.map_append, List.map_cons] at e
          rw [e, mapM_bad (fun p => xnum p 256) _ _ _ hu]
          rfl
        generalize ps[k] = p at *
        cases hx : xnum (nums p) 256 with
        | some u =>
          have K := Lib.hid (fun W => num_yes 8 (.inl rfl) p (by omega) u hx W)
          have hu2 : u ≤ 255 := by have := (xnum_some hx).2; omega
          have HNS := Lib.hid (HP.out u hx)
          clear hx HP HQ
          have hw1 : IntKind.u8.wrap (u : Int) = (u : Int) := by rw [IntKind.wrap_u8]; omega
          go_wp2_with fail
          refine (K.out _).mono ?_
          rintro e w2 ⟨rfl, H2⟩
          obtain ⟨ys, hO, hT⟩ := HW.out
          have hnb : Below w2.heap.size w2 (w2.alloc (.cells #[.int .u8 (u : Int)] 5)) := (Below.refl _ _).alloc (Nat.le_refl _) _
          have HO2 : Hid (Own w1.heap.size (w2.alloc (.cells #[.int .u8 (u : Int)] 5)) u5 k ys ∧ ys.take k = ns.map Int.ofNat) := ⟨(hO.below H2.out).below hnb, hT⟩
          have HR2 : Hid (Rd (w2.alloc (.cells #[.int .u8 (u : Int)] 5)) (some ⟨w2.heap.size, 0, none⟩) [(u : Int)]) := new_rd w2 _ (by omega)
          have HNB : Hid (Below w2.heap.size w2 (w2.alloc (.cells #[.int .u8 (u : Int)] 5))) := hnb
          have HB3 : Hid (Below w1.heap.size w1 w2) := HB2.out.trans (H2.out.mono HB2.out.size)
          clear hO hT hnb HW H2 HB2
          go_wp2_with (at_builtin; refine wpList_append_blk _ rfl _ _ rfl w1.heap.size _ k ys rfl HO2.out.1 (some ⟨w2.heap.size, 0, none⟩) 1 1 [(u : Int)] rfl HR2.out rfl (by simp) (by omega) (Nat.le_trans HB3.out.size HNB.out.size) ?_; intro v' w' ys' hO' hT' hG')
          have hrow := HO2.out.1.lt
          refine ⟨⟨k + 1, ns ++ [u], by omega, by go_num, ⟨HNS.out, by rw [List.length_append, HN.out.2]; rfl⟩, ⟨ys', ?_, ?_⟩, ?_⟩, by simp [intOf]; omega⟩
          · exact hO'.out
          · rw [hT'.out, HO2.out.2, List.map_append]; rfl
          · exact (HB3.out.trans (HNB.out.mono HB3.out.size)).grown hG' (Nat.le_trans HB3.out.size HNB.out.size) hrow
        | none =>
          have K := Lib.hid (num_no 8 (.inl rfl) p (by omega) hx wr HE2.out)
          have HQ2 := Lib.hid (HQ.out hx)
          clear hx HP HQ
          go_wp2_with fail
          refine K.out.mono ?_
          rintro e w2 ⟨x, rfl, H2⟩
          have HB3 : Hid (Below w.heap.size w w2) := HB.out.trans ((HB2.out.trans (H2.out.mono HB2.out.size)).mono HB.out.size)
          go_wp2_with fail
          go_ret2
          exact ⟨fun out h => (by rw [HQ2.out] at h; cases h), fun _ => ⟨rfl, HB3.out⟩⟩
      · have hge : ¬ (k : Int) < (ps.length : Int) := by omega
        have HF : Hid (xfour (nums s) = some (ns.map Int.ofNat)) := by
          show _ = _
          have h1 := HN.out.1
          rw [List.take_of_length_le (by omega)] at h1
          rw [HG2.out, h1, Option.bind_some, if_pos (by rw [HN.out.2]; have := H4.out; omega)]
        have HB3 : Hid (Below w.heap.size w wr) := HB.out.trans (HB2.out.mono HB.out.size)
        go_wp2_with fail
        go_ret2
        refine ⟨fun out h => ?_, fun h => (by rw [HF.out] at h; cases h)⟩
        rw [HF.out] at h
        injection h with h
        subst h
        obtain ⟨ys, hO, hT⟩ := HW.out
        have hl : (ns.map Int.ofNat).length = k := by rw [List.length_map, HN.out.2]
        rw [hl]
        exact ⟨_, ys, rfl, hO.mono HB.out.size, hT, HB3.out⟩
  · have h4b : ((ps.length : Int) != 4) = true := by simp; omega
    have HQ : Hid (xfour (nums s) = none) := by
      show _ = _
      rw [HG2.out]
      cases hm : (ps.map nums).mapM (fun p => xnum p 256) with
      | none => rfl
      | some a =>
        rw [Option.bind_some, if_neg]
        have : ∀ (l : List (List Int)) (a : List Nat), l.mapM (fun p => xnum p 256) = some a → a.length = l.length := by
          intro l
          induction l with
          | nil => intro a h; simp at h; subst h; rfl
          | cons x l ih =>
            intro a h
            rw [List.mapM_cons] at h
            cases hx : xnum x 256 with
            | none => rw [hx] at h; cases h
            | some u =>
              rw [hx] at h
              cases hl : l.mapM (fun p => xnum p 256) with
              | none => rw [hl] at h; cases h
              | some b => rw [hl] at h; injection h with h; subst h; simp [ih b hl]
        rw [this _ _ hm, List.length_map]
        exact h4
    go_wp2_with fail
    go_ret2
    exact ⟨fun out h => (by rw [HQ.out] at h; cases h), fun _ => ⟨rfl, HB.out⟩⟩
end Go.Proofs.YtfkfjodfjgjbkaaGreatDoor
/- Addresses of sixteen bytes, and of either kind, as the program reads them. -/
namespace Go.Proofs.YtfkfjodfjgjbkaaGreatDoor
open Go.ChangeShapes Go.WideShapes Go.ChangeAt Go.RowKit Go.Sort
set_option linter.unusedVariables false
set_option linter.unusedSimpArgs false

theorem xgrps_even {l out : List Int} (h : xgrps l = some out) : ∃ k, out.length = 2 * k := by
  unfold xgrps at h
  split at h
  · injection h with h; subst h; exact ⟨0, rfl⟩
  · rw [Option.map_eq_some_iff] at h
    obtain ⟨ns, _, rfl⟩ := h
    exact ⟨ns.length, xby_len ns⟩
theorem mapM_len {α β : Type} (f : α → Option β) : ∀ (l : List α) (a : List β), l.mapM f = some a → a.length = l.length := by
  intro l
  induction l with
  | nil => intro a h; simp at h; subst h; rfl
  | cons x l ih =>
    intro a h
    rw [List.mapM_cons] at h
    cases hx : f x with
    | none => rw [hx] at h; cases h
    | some u =>
      rw [hx] at h
      cases hl : l.mapM f with
      | none => rw [hl] at h; cases h
      | some b => rw [hl] at h; injection h with h; subst h; simp [ih b hl]
theorem xgrps_le {l out : List Int} (h : xgrps l = some out) : out.length ≤ 2 * (l.length + 1) := by
  unfold xgrps at h
  split at h
  · injection h with h; subst h; simp
  · rw [Option.map_eq_some_iff] at h
    obtain ⟨ns, h1, rfl⟩ := h
    have h2 := mapM_len _ _ _ h1
    have h3 := (xsplit_many 58 l).1
    rw [xby_len]
    omega
/-- What Cut answers at the first two colons. -/
def CutF (s f b : ByteArray) (g : Bool) : Prop := (g = true ∧ xdc (nums s) = some (nums f, nums b)) ∨ (g = false ∧ xdc (nums s) = none ∧ f = s ∧ b = ⟨#[]⟩)
theorem cut_any (s : ByteArray) (w : World) (hs : s.size < 4294967281) (hE : LayE w) :
    Calls Tryz.prog 98 #[.string s, .string ⟨#[58, 58]⟩] w fun e w' => ∃ f b g, e = .returned (.tuple #[.string f, .string b, .bool g]) ∧ Hid (CutF s f b g) ∧ f.size ≤ s.size ∧ b.size ≤ s.size ∧ Hid (Below w.heap.size w w') := by
  obtain ⟨_, _, _, m, hm⟩ := hE
  refine (Tryz.strings_Cut s ⟨#[58, 58]⟩ m w hs hm).mono ?_
  rintro e w' ⟨rfl, n, rfl⟩
  have hb : Below w.heap.size w (w.drewN n) := ⟨rfl, rfl, rfl, Nat.le_refl _, fun _ _ => rfl⟩
  have hmk : ∀ l : List UInt8, (⟨l.toArray⟩ : ByteArray).data.toList = l := fun l => by simp
  have hsz : ∀ l : List UInt8, (⟨l.toArray⟩ : ByteArray).size = l.length := fun l => by show l.toArray.size = _; simp
  have hself : (⟨s.data.toList.toArray⟩ : ByteArray) = s := by apply ByteArray.ext; simp
  have h58 : (⟨#[58, 58]⟩ : ByteArray).data.toList = [58, 58] := rfl
  rw [h58]
  cases hx : xdc (bi s.data.toList) with
  | none =>
    rw [cut_none _ hx]
    refine ⟨_, _, _, rfl, .inr ⟨rfl, hx, hself, rfl⟩, by rw [hself]; exact Nat.le_refl _, by rw [hsz]; exact Nat.zero_le _, hb⟩
  | some p =>
    obtain ⟨p, r⟩ := p
    obtain ⟨a, b, e, h1, h2⟩ := cut_some _ p r hx
    obtain ⟨a', b', e', _, _, _⟩ := (index_cc s.data.toList).2 p r hx
    have hl : a.length ≤ s.size ∧ b.length ≤ s.size := by
      unfold Lib.cut at e
      split at e
      · have e1 := congrArg (fun x => x.1.length) e
        have e2 := congrArg (fun x => x.2.1.length) e
        simp only [List.length_take, List.length_drop] at e1 e2
        have : s.data.toList.length = s.size := rfl
        omega
      · exact absurd (congrArg (fun x => x.2.2) e) (by simp)
    rw [e]
    refine ⟨_, _, _, rfl, .inl ⟨rfl, ?_⟩, by rw [hsz]; exact hl.1, by rw [hsz]; exact hl.2, hb⟩
    rw [nums_bi, hx, nums_bi, nums_bi, hmk, hmk, h1, h2]
theorem tail_rd {B : Nat} {w w' : World} {bo : Option Addr} {n : Nat} {zs ob : List Int} {v : Value} (h : Own B w (.slice bo n zs.length) n zs) (ht : zs.take n = ob) (hg : w.grownBy w' v.ownBlock) (hr : ∀ g, v.ownBlock = some g → g < B) : Rd w' bo ob := by
  obtain ⟨bo', e, hA⟩ := h.addr
  injection e with e _ _
  subst e
  have hk := hA.keep (w' := w') (fun g h1 h2 => hg.block g h2 (fun e => by
    have h3 := (hA.lt g h1).1
    have h4 := hr g e.symm
    omega))
  have := hk.rdTake n
  rw [ht] at this
  exact this
set_option maxRecDepth 100000 in
set_option maxHeartbeats 8000000 in
theorem long_any (s : ByteArray) (w : World) (hs : s.size < 4294967281) (hE : LayE w) : Calls Tryz.prog 66 #[.string s] w (ByPost (xsix (nums s)) w) := by
  have HE : Hid (LayE w) := hE
  clear hE
  go_enter Tryz.func66, Tryz.ntmps66
  go_wp2_with fail
  refine (cut_any s w hs HE.out).mono ?_
  rintro e w1 ⟨f, b, g, rfl, HC, hf, hb, H1⟩
  have K1 := Lib.hid (pairs_any f w1 (by omega) (HE.out.below H1.out))
  go_wp2_with fail
  refine K1.out.mono ?_
  intro e w2 HP1
  have HP1 := Lib.hid HP1
  clear K1
  cases ha : xgrps (nums f) with
  | none =>
    obtain ⟨rfl, H2⟩ := HP1.out.2 ha
    have HB2 : Hid (Below w.heap.size w w2) := H1.out.trans (H2.out.mono H1.out.size)
    have K2 := Lib.hid (pairs_any b w2 (by omega) (HE.out.below HB2.out))
    have HX : Hid (xsix (nums s) = none) := by
      show _ = _
      unfold xsix
      rcases HC.out with ⟨_, h⟩ | ⟨_, h, rfl, _⟩
      · rw [h]; simp only; rw [ha]; rfl
      · rw [h]; simp only; rw [ha]; rfl
    clear HP1 H2
    go_wp2_with fail
    refine K2.out.mono ?_
    intro e w3 HP2
    have HP2 := Lib.hid HP2
    clear K2
    cases hb2 : xgrps (nums b) with
    | none =>
      obtain ⟨rfl, H3⟩ := HP2.out.2 hb2
      have HB3 : Hid (Below w.heap.size w w3) := HB2.out.trans (H3.out.mono HB2.out.size)
      clear HP2
      go_wp2_with fail
      go_ret2
      exact ⟨fun out h => (by rw [HX.out] at h; cases h), fun _ => ⟨rfl, HB3.out⟩⟩
    | some ob =>
      obtain ⟨v, ys, rfl, H3⟩ := HP2.out.1 ob hb2
      have HB3 : Hid (Below w.heap.size w w3) := HB2.out.trans (H3.out.2.2.mono HB2.out.size)
      obtain ⟨ao, rfl, hA⟩ := H3.out.1.addr
      clear HP2 hA
      go_wp2_with fail
      go_ret2
      exact ⟨fun out h => (by rw [HX.out] at h; cases h), fun _ => ⟨rfl, HB3.out⟩⟩
  | some oa =>
    obtain ⟨va, za, rfl, H2⟩ := HP1.out.1 oa ha
    have HB2 : Hid (Below w.heap.size w w2) := H1.out.trans (H2.out.2.2.mono H1.out.size)
    have K2 := Lib.hid (pairs_any b w2 (by omega) (HE.out.below HB2.out))
    obtain ⟨ao, rfl, hA⟩ := H2.out.1.addr
    clear HP1 hA
    go_wp2_with fail
    refine K2.out.mono ?_
    intro e w3 HP2
    have HP2 := Lib.hid HP2
    clear K2
    cases hb2 : xgrps (nums b) with
    | none =>
      obtain ⟨rfl, H3⟩ := HP2.out.2 hb2
      have HX : Hid (xsix (nums s) = none) := by
        show _ = _
        unfold xsix
        rcases HC.out with ⟨_, h⟩ | ⟨_, h, rfl, rfl⟩
        · rw [h]; simp only; rw [ha, hb2]; rfl
        · exact absurd hb2 (by decide)
      have HB3 : Hid (Below w.heap.size w w3) := HB2.out.trans (H3.out.mono HB2.out.size)
      clear HP2
      go_wp2_with fail
      go_ret2
      exact ⟨fun out h => (by rw [HX.out] at h; cases h), fun _ => ⟨rfl, HB3.out⟩⟩
    | some ob =>
      obtain ⟨vb, zb, rfl, H3⟩ := HP2.out.1 ob hb2
      have HB3 : Hid (Below w.heap.size w w3) := HB2.out.trans (H3.out.2.2.mono HB2.out.size)
      obtain ⟨bo, rfl, hA⟩ := H3.out.1.addr
      clear HP2 hA
      obtain ⟨ka, hka⟩ := xgrps_even ha
      obtain ⟨kb, hkb⟩ := xgrps_even hb2
      have HX : Hid (xsix (nums s) = if (g = true ∧ ka + kb ≤ 7) ∨ (g = false ∧ ka + kb = 8) then some (oa ++ List.replicate (16 - 2 * ka - 2 * kb) 0 ++ ob) else none) := by
        show _ = _
        unfold xsix
        rcases HC.out with ⟨hg, h⟩ | ⟨hg, h, rfl, rfl⟩
        · rw [h]
          simp only
          rw [ha, hb2, Option.bind_some, Option.bind_some, hka, hkb]
          by_cases hc : ka + kb ≤ 7
          · rw [if_pos (by omega), if_pos (.inl ⟨hg, hc⟩)]
          · rw [if_neg (by omega), if_neg]
            rintro (⟨_, h⟩ | ⟨h, _⟩)
            · exact hc h
            · rw [hg] at h; cases h
        · rw [h]
          simp only
          rw [ha, Option.bind_some, hka]
          have e0 : ob = [] := by
            have h0 : xgrps (nums ⟨#[]⟩) = some [] := rfl
            rw [h0] at hb2; injection hb2 with hb2; exact hb2.symm
          subst e0
          simp only [List.length_nil] at hkb
          by_cases hc : 2 * ka = 16
          · rw [if_pos hc, if_pos (.inr ⟨hg, by omega⟩)]
            have : 16 - 2 * ka - 2 * kb = 0 := by omega
            rw [this]; simp
          · rw [if_neg hc, if_neg]
            rintro (⟨h, _⟩ | ⟨_, h⟩)
            · rw [hg] at h; cases h
            · omega
      have HA : Hid (Own w1.heap.size w3 (.slice ao oa.length za.length) oa.length za ∧ za.take oa.length = oa ∧ (∀ g, blk ao = some g → g < w2.heap.size)) := by
        refine ⟨H2.out.1.below H3.out.2.2, H2.out.2.1, fun g hg => ?_⟩
        obtain ⟨ao', e, hA⟩ := H2.out.1.addr
        injection e with e _ _
        subst e
        exact (hA.lt g hg).2
      have HBb : Hid (Own w2.heap.size w3 (.slice bo ob.length zb.length) ob.length zb ∧ zb.take ob.length = ob) := ⟨H3.out.1, H3.out.2.1⟩
      have hs21 : w1.heap.size ≤ w2.heap.size := H2.out.2.2.size
      have hs32 : w2.heap.size ≤ w3.heap.size := H3.out.2.2.size
      have HSZ : Hid (Below w.heap.size w w1 ∧ w.heap.size ≤ w1.heap.size) := ⟨H1.out, H1.out.size⟩
      have hba := xgrps_le ha
      have hbb := xgrps_le hb2
      rw [nums_len] at hba hbb
      have hba : oa.length ≤ 10000000000 := by omega
      have hbb : ob.length ≤ 10000000000 := by omega
      clear H2 H3 ha hb2 HC HP1 HP2 HB2 H1
      have HKA : Hid (oa.length = 2 * ka ∧ ob.length = 2 * kb) := ⟨hka, hkb⟩
      clear hka hkb
      obtain ⟨la, hla⟩ : ∃ la, oa.length = la := ⟨_, rfl⟩
      obtain ⟨lb', hlb⟩ : ∃ lb', ob.length = lb' := ⟨_, rfl⟩
      have HLN : Hid (oa.length = la ∧ ob.length = lb') := ⟨hla, hlb⟩
      rw [hla, hlb] at HKA
      rw [hla] at HA
      rw [hlb] at HBb
      rw [hla] at hba
      rw [hlb] at hbb
      rw [hla, hlb]
      clear hla hlb
      by_cases c1 : 16 < la + lb'
      · have c1' : (16 : Int) - (la : Int) < (lb' : Int) := by omega
        have HX2 : Hid (xsix (nums s) = none) := by
          show _ = _
          have h1 := HKA.out.1; have h2 := HKA.out.2
          rw [HX.out, if_neg (by rintro (⟨_, h⟩ | ⟨_, h⟩) <;> omega)]
        clear HX
        go_wp2_with fail
        go_ret2
        exact ⟨fun out h => (by rw [HX2.out] at h; cases h), fun _ => ⟨rfl, HB3.out⟩⟩
      · have c1' : ¬ (16 : Int) - (la : Int) < (lb' : Int) := by omega
        cases g with
        | true =>
          by_cases c2 : la + lb' = 16
          · have c2' : ¬ (lb' : Int) < (16 : Int) - (la : Int) := by omega
            have hd : decide ((lb' : Int) < (16 : Int) - (la : Int)) = false := decide_eq_false c2'
            have HX2 : Hid (xsix (nums s) = none) := by
              show _ = _
              have h1 := HKA.out.1; have h2 := HKA.out.2
              rw [HX.out, if_neg (by rintro (⟨_, h⟩ | ⟨h, _⟩); omega; cases h)]
            clear HX
            go_wp2_with fail
            go_ret2
            exact ⟨fun out h => (by rw [HX2.out] at h; cases h), fun _ => ⟨rfl, HB3.out⟩⟩
          · have c2' : (lb' : Int) < (16 : Int) - (la : Int) := by omega
            have hd : decide ((lb' : Int) < (16 : Int) - (la : Int)) = true := decide_eq_true c2'
            have HX2 : Hid (xsix (nums s) = some (oa ++ List.replicate (16 - la - lb') 0 ++ ob)) := by
              show _ = _
              have h1 := HKA.out.1; have h2 := HKA.out.2
              rw [HX.out, if_pos (.inl ⟨rfl, by omega⟩), h1, h2]
            clear HX
            have HNil : Hid (bo = none → zb.length = 0) := by
              obtain ⟨bo', e, hA⟩ := HBb.out.1.addr
              injection e with e _ _
              subst e
              exact hA.nil
            have HRow : Hid (∀ g, (Value.slice ao la za.length).ownBlock = some g → w1.heap.size ≤ g ∧ g < w2.heap.size) := by
              intro g hg
              refine ⟨HA.out.1.lt g hg, HA.out.2.2 g ?_⟩
              rw [← hg]
              cases ao <;> rfl
            go_wp2_with (first
              | (at_builtin; refine wpList_append_zeros _ rfl _ _ rfl w1.heap.size _ la za rfl HA.out.1 (16 - la - lb') _ rfl (by omega) (by omega) (by omega) (Nat.le_trans hs21 hs32) ?_; intro v4 w4 z4 hO4 hT4 hG4; have HG4 : Hid (w3.grownBy w4 (Value.slice ao la za.length).ownBlock) := hG4; clear hG4; have HR4 := Lib.hid (tail_rd HBb.out.1 HBb.out.2 HG4.out (fun g hg => (HRow.out g hg).2)); have HS4 : Hid (w3.heap.size ≤ w4.heap.size) := HG4.out.size)
              | (at_builtin; refine wpList_append_blk _ rfl _ _ rfl w1.heap.size _ (la + (16 - la - lb')) z4 rfl hO4.out bo lb' zb.length ob rfl HR4.out HLN.out.2 HNil.out (by omega) (Nat.le_trans (Nat.le_trans hs21 hs32) HS4.out) ?_; intro v5 w5 z5 hO5 hT5 hG5; have HG5 : Hid (w4.grownBy w5 v4.ownBlock) := hG5; clear hG5))
            go_ret2
            refine ⟨fun out h => ?_, fun h => (by rw [HX2.out] at h; cases h)⟩
            rw [HX2.out] at h
            injection h with h
            subst h
            have hlen : (oa ++ List.replicate (16 - la - lb') 0 ++ ob).length = la + (16 - la - lb') + lb' := by
              simp only [List.length_append, List.length_replicate, HLN.out.1, HLN.out.2]
            rw [hlen]
            have hb4 : Below w.heap.size w w4 := HB3.out.grown HG4.out HB3.out.size (fun g hg => Nat.le_trans HSZ.out.2 (HRow.out g hg).1)
            refine ⟨_, z5, rfl, hO5.out.mono HSZ.out.2, ?_, hb4.grown HG5.out hb4.size (fun g hg => Nat.le_trans HSZ.out.2 (hO4.out.lt g hg))⟩
            rw [hT5.out, hT4.out, HA.out.2.1]
        | false =>
          by_cases c2 : la + lb' = 16
          · have c2' : ¬ (lb' : Int) < (16 : Int) - (la : Int) := by omega
            have hd : decide ((lb' : Int) < (16 : Int) - (la : Int)) = false := decide_eq_false c2'
            have HX2 : Hid (xsix (nums s) = some (oa ++ List.replicate (16 - la - lb') 0 ++ ob)) := by
              show _ = _
              have h1 := HKA.out.1; have h2 := HKA.out.2
              rw [HX.out, if_pos (.inr ⟨rfl, by omega⟩), h1, h2]
            clear HX
            have HNil : Hid (bo = none → zb.length = 0) := by
              obtain ⟨bo', e, hA⟩ := HBb.out.1.addr
              injection e with e _ _
              subst e
              exact hA.nil
            have HRow : Hid (∀ g, (Value.slice ao la za.length).ownBlock = some g → w1.heap.size ≤ g ∧ g < w2.heap.size) := by
              intro g hg
              refine ⟨HA.out.1.lt g hg, HA.out.2.2 g ?_⟩
              rw [← hg]
              cases ao <;> rfl
            go_wp2_with (first
              | (at_builtin; refine wpList_append_zeros _ rfl _ _ rfl w1.heap.size _ la za rfl HA.out.1 (16 - la - lb') _ rfl (by omega) (by omega) (by omega) (Nat.le_trans hs21 hs32) ?_; intro v4 w4 z4 hO4 hT4 hG4; have HG4 : Hid (w3.grownBy w4 (Value.slice ao la za.length).ownBlock) := hG4; clear hG4; have HR4 := Lib.hid (tail_rd HBb.out.1 HBb.out.2 HG4.out (fun g hg => (HRow.out g hg).2)); have HS4 : Hid (w3.heap.size ≤ w4.heap.size) := HG4.out.size)
              | (at_builtin; refine wpList_append_blk _ rfl _ _ rfl w1.heap.size _ (la + (16 - la - lb')) z4 rfl hO4.out bo lb' zb.length ob rfl HR4.out HLN.out.2 HNil.out (by omega) (Nat.le_trans (Nat.le_trans hs21 hs32) HS4.out) ?_; intro v5 w5 z5 hO5 hT5 hG5; have HG5 : Hid (w4.grownBy w5 v4.ownBlock) := hG5; clear hG5))
            go_ret2
            refine ⟨fun out h => ?_, fun h => (by rw [HX2.out] at h; cases h)⟩
            rw [HX2.out] at h
            injection h with h
            subst h
            have hlen : (oa ++ List.replicate (16 - la - lb') 0 ++ ob).length = la + (16 - la - lb') + lb' := by
              simp only [List.length_append, List.length_replicate, HLN.out.1, HLN.out.2]
            rw [hlen]
            have hb4 : Below w.heap.size w w4 := HB3.out.grown HG4.out HB3.out.size (fun g hg => Nat.le_trans HSZ.out.2 (HRow.out g hg).1)
            refine ⟨_, z5, rfl, hO5.out.mono HSZ.out.2, ?_, hb4.grown HG5.out hb4.size (fun g hg => Nat.le_trans HSZ.out.2 (hO4.out.lt g hg))⟩
            rw [hT5.out, hT4.out, HA.out.2.1]
          · have c2' : (lb' : Int) < (16 : Int) - (la : Int) := by omega
            have hd : decide ((lb' : Int) < (16 : Int) - (la : Int)) = true := decide_eq_true c2'
            have HX2 : Hid (xsix (nums s) = none) := by
              show _ = _
              have h1 := HKA.out.1; have h2 := HKA.out.2
              rw [HX.out, if_neg (by rintro (⟨h, _⟩ | ⟨_, h⟩); cases h; omega)]
            clear HX
            go_wp2_with fail
            go_ret2
            exact ⟨fun out h => (by rw [HX2.out] at h; cases h), fun _ => ⟨rfl, HB3.out⟩⟩
end Go.Proofs.YtfkfjodfjgjbkaaGreatDoor
/- Addresses, as the program reads them: of either kind. -/
namespace Go.Proofs.YtfkfjodfjgjbkaaGreatDoor
open Go.ChangeShapes Go.WideShapes Go.ChangeAt Go.RowKit Go.Sort
set_option linter.unusedVariables false
set_option linter.unusedSimpArgs false

theorem xsplit_mem (c x : Int) (l : List Int) (hx : x ≠ c) (h : x ∈ l) : ∃ p ∈ xsplit c l, x ∈ p := by
  induction l with
  | nil => cases h
  | cons y l ih =>
    simp only [xsplit]
    by_cases hy : y = c
    · rw [if_pos hy]
      rcases List.mem_cons.1 h with rfl | h
      · exact absurd hy hx
      · obtain ⟨p, hp, hxp⟩ := ih h
        exact ⟨p, List.mem_cons_of_mem _ hp, hxp⟩
    · rw [if_neg hy]
      cases hq : xsplit c l with
      | nil =>
        have := (xsplit_many c l).2
        rw [hq] at this
        simp at this
      | cons q qs =>
        simp only
        rcases List.mem_cons.1 h with rfl | h
        · exact ⟨_, List.mem_cons_self .., List.mem_cons_self ..⟩
        · obtain ⟨p, hp, hxp⟩ := ih h
          rw [hq] at hp
          rcases List.mem_cons.1 hp with rfl | hp
          · exact ⟨_, List.mem_cons_self .., List.mem_cons_of_mem _ hxp⟩
          · exact ⟨p, List.mem_cons_of_mem _ hp, hxp⟩
theorem mapM_none {α β : Type} (f : α → Option β) (l : List α) (x : α) (hx : x ∈ l) (h : f x = none) : l.mapM f = none := by
  obtain ⟨a, b, rfl⟩ := List.append_of_mem hx
  exact mapM_bad f a x b h
theorem xp_colon (l : List Int) (h : (58 : Int) ∈ l) : xpaddr l = xsix l := by
  unfold xpaddr
  have : xfour l = none := by
    obtain ⟨p, hp, hc⟩ := xsplit_mem 46 58 l (by decide) h
    unfold xfour
    rw [mapM_none _ _ p hp]
    · rfl
    · cases hx : xnum p 256 with
      | none => rfl
      | some n =>
        have h1 := (xnum_some hx).1
        rw [h1] at hc
        have := xdec_digit n 58 hc
        omega
  rw [this]
theorem xp_plain (l : List Int) (h : (58 : Int) ∉ l) : xpaddr l = xfour l := by
  unfold xpaddr
  cases hf : xfour l with
  | some b => rfl
  | none =>
    simp only
    unfold xsix
    have hd : xdc l = none := by
      have := xdc_pre l [] h
      rw [List.append_nil] at this
      rw [this]; rfl
    rw [hd]
    simp only
    unfold xgrps
    by_cases h0 : l = []
    · rw [if_pos h0]; rfl
    · rw [if_neg h0, xsplit_none 58 l h]
      cases hg : xgrp l with
      | none => simp [List.mapM_cons, hg]
      | some n => simp [List.mapM_cons, hg, xby]
def AdPost (o : Option (List Int)) (w : World) (e : Ending) (w' : World) : Prop :=
  (∀ out, o = some out → ∃ v ys, e = .returned (.tuple #[v, .int .i64 0]) ∧ Hid (Own w.heap.size w' v out.length ys ∧ ys.take out.length = out ∧ Below w.heap.size w w')) ∧
  (o = none → e = .returned (.tuple #[.slice none 0 0, .int .i64 7]) ∧ Hid (Below w.heap.size w w'))
set_option maxRecDepth 100000 in
set_option maxHeartbeats 4000000 in
theorem paddr_any (s : ByteArray) (w : World) (hs : s.size < 4294967281) (hE : LayE w) : Calls Tryz.prog 32 #[.string s] w (AdPost (xpaddr (nums s)) w) := by
  have KS := Lib.hid (short_any s w hs hE)
  have KL := Lib.hid (long_any s w hs hE)
  clear hE
  by_cases hc : (58 : UInt8) ∈ s.data.toList
  · have hp : xpaddr (nums s) = xsix (nums s) := xp_colon _ ((bi_mem 58 _).2 hc)
    have K1 := Lib.hid (Tryz.strings_Contains_one s 58 w)
    rw [(has_x 58 s.data.toList).2 hc] at K1
    rw [hp]
    clear hc hp KS
    generalize xsix (nums s) = o at *
    go_enter Tryz.func32, Tryz.ntmps32
    go_wp2_with fail
    refine K1.out.mono ?_
    rintro e w' ⟨rfl, hw⟩
    subst w'
    go_wp2_with fail
    refine KL.out.mono ?_
    intro e w1 HP
    have HP := Lib.hid HP
    clear KL K1
    cases o with
    | none =>
      obtain ⟨rfl, H⟩ := HP.out.2 rfl
      clear HP
      go_wp2_with fail
      go_ret2
      exact ⟨fun out h => (by cases h), fun _ => ⟨rfl, H.out⟩⟩
    | some out =>
      obtain ⟨v, ys, rfl, H⟩ := HP.out.1 out rfl
      clear HP
      go_wp2_with fail
      go_ret2
      exact ⟨fun out' h => (by injection h with h; subst h; exact ⟨v, ys, rfl, H.out⟩), fun h => (by cases h)⟩
  · have hp : xpaddr (nums s) = xfour (nums s) := xp_plain _ (fun h => hc ((bi_mem 58 _).1 h))
    have K1 := Lib.hid (Tryz.strings_Contains_one s 58 w)
    have hf : decide (0 ≤ Lib.indexByte s.data.toList 58) = false := by
      cases h : decide (0 ≤ Lib.indexByte s.data.toList 58) with
      | false => rfl
      | true => exact absurd ((has_x 58 s.data.toList).1 h) hc
    rw [hf] at K1
    rw [hp]
    clear hc hp KL hf
    generalize xfour (nums s) = o at *
    go_enter Tryz.func32, Tryz.ntmps32
    go_wp2_with fail
    refine K1.out.mono ?_
    rintro e w' ⟨rfl, hw⟩
    subst w'
    go_wp2_with fail
    refine KS.out.mono ?_
    intro e w1 HP
    have HP := Lib.hid HP
    clear KS K1
    cases o with
    | none =>
      obtain ⟨rfl, H⟩ := HP.out.2 rfl
      clear HP
      go_wp2_with fail
      go_ret2
      exact ⟨fun out h => (by cases h), fun _ => ⟨rfl, H.out⟩⟩
    | some out =>
      obtain ⟨v, ys, rfl, H⟩ := HP.out.1 out rfl
      clear HP
      go_wp2_with fail
      go_ret2
      exact ⟨fun out' h => (by injection h with h; subst h; exact ⟨v, ys, rfl, H.out⟩), fun h => (by cases h)⟩
end Go.Proofs.YtfkfjodfjgjbkaaGreatDoor
/- Folded data and the order of data. No text of the program is used here. -/
namespace Go.Proofs.YtfkfjodfjgjbkaaGreatDoor
open Go.ChangeShapes Go.WideShapes Go.ChangeAt Go.RowKit
set_option linter.unusedVariables false
set_option linter.unusedSimpArgs false




/-- A label folded, a name folded, data folded. -/
def foldL (s : ByteArray) : ByteArray := ⟨(txt ((nums s).map fz)).toArray⟩
def foldN (n : List ByteArray) : List ByteArray := n.map foldL
def foldD (t : Nat) (d : Dat) : Dat := if mayT t = true ∧ (shp t).nn ≠ 0 then ⟨d.ns.map foldN, d.us, d.ts, d.raw⟩ else d
theorem foldL_size (s : ByteArray) : (foldL s).size = s.size := by
  show (txt ((nums s).map fz)).toArray.size = s.size
  rw [List.size_toArray, txt_len, List.length_map, nums_len]
theorem nums_foldL (s : ByteArray) : nums (foldL s) = (nums s).map fz := by
  unfold foldL
  refine nums_txt _ fun z hz => ?_
  obtain ⟨y, hy, rfl⟩ := List.mem_map.1 hz
  exact fz_bd y (nums_bds s y hy)
theorem foldL_fold (s : ByteArray) : foldL (foldL s) = foldL s := by
  have h := nums_foldL s
  unfold foldL at h ⊢
  rw [h, List.map_map]
  congr 3
  exact List.map_congr_left fun z _ => fz_fz z
theorem foldN_fold (n : List ByteArray) : foldN (foldN n) = foldN n := by
  unfold foldN
  rw [List.map_map]
  exact List.map_congr_left fun s _ => foldL_fold s
theorem foldN_nsz : ∀ n : List ByteArray, nsz (foldN n) = nsz n
  | [] => rfl
  | s :: r => by
    have := foldN_nsz r
    simp only [foldN, List.map_cons, nsz, foldL_size] at this ⊢
    omega
theorem foldN_nck (n : List ByteArray) : nck (foldN n) = nck n := by
  have h : labsOk (foldN n) ↔ labsOk n := by
    unfold labsOk foldN
    simp only [List.mem_map, forall_exists_index, and_imp, forall_apply_eq_imp_iff₂, foldL_size]
  unfold nck
  rw [foldN_nsz]
  by_cases hl : labsOk n
  · rw [if_pos hl, if_pos (h.2 hl)]
  · rw [if_neg hl, if_neg (fun x => hl (h.1 x))]
theorem nsErr_fold : ∀ l : List (List ByteArray), nsErr (l.map foldN) = nsErr l
  | [] => rfl
  | n :: r => by
    simp only [List.map_cons, nsErr, foldN_nck, nsErr_fold r]
theorem foldD_check (t : Nat) (d : Dat) : checkF t (foldD t d) = checkF t d := by
  unfold foldD
  split
  · have h1 : fitsB t ⟨d.ns.map foldN, d.us, d.ts, d.raw⟩ = fitsB t d := by simp [fitsB]
    have h2 : sizesF t ⟨d.ns.map foldN, d.us, d.ts, d.raw⟩ = sizesF t d := by
      unfold sizesF
      simp only [List.map_map]
      congr 3
      exact List.map_congr_left fun n _ => foldN_nsz n
    unfold checkF
    rw [h1, h2]
    simp only [nsErr_fold]
  · rfl
theorem foldD_fold (t : Nat) (d : Dat) : foldD t (foldD t d) = foldD t d := by
  unfold foldD
  by_cases h : mayT t = true ∧ (shp t).nn ≠ 0
  · simp only [if_pos h, List.map_map]
    congr 1
    exact List.map_congr_left fun n _ => foldN_fold n
  · simp only [if_neg h]
/-- How two stand to one another. -/
def cmpL (x y : List Int) : Int := Lib.compareBytes (txt x) (txt y)
def compareF (t : Nat) (a b : Dat) : Int := if checkF t a = 0 ∧ checkF t b = 0 then cmpL (writeF t (foldD t a)) (writeF t (foldD t b)) else 0
def sameF (t : Nat) (a b : Dat) : Bool := decide (checkF t a = 0) && decide (checkF t b = 0) && decide (compareF t a b = 0)
theorem compareF_range (t : Nat) (a b : Dat) : compareF t a b = -1 ∨ compareF t a b = 0 ∨ compareF t a b = 1 := by
  unfold compareF
  split
  · exact cb_range _ _
  · exact .inr (.inl rfl)
theorem compareF_neg (t : Nat) (a b : Dat) : compareF t b a = - compareF t a b := by
  unfold compareF
  by_cases h : checkF t a = 0 ∧ checkF t b = 0
  · rw [if_pos h, if_pos ⟨h.2, h.1⟩]; exact cb_neg _ _
  · rw [if_neg h, if_neg (fun x => h ⟨x.2, x.1⟩)]; rfl
theorem compareF_trans {t : Nat} {a b c : Dat} (ha : checkF t a = 0) (hb : checkF t b = 0) (hc : checkF t c = 0) (h1 : compareF t a b ≤ 0) (h2 : compareF t b c ≤ 0) : compareF t a c ≤ 0 := by
  unfold compareF at *
  rw [if_pos ⟨ha, hb⟩] at h1
  rw [if_pos ⟨hb, hc⟩] at h2
  rw [if_pos ⟨ha, hc⟩]
  exact cb_trans _ _ _ h1 h2
theorem compareF_strict {t : Nat} {a b c : Dat} (ha : checkF t a = 0) (hb : checkF t b = 0) (hc : checkF t c = 0) (h1 : compareF t a b < 0) (h2 : compareF t b c ≤ 0) : compareF t a c < 0 := by
  by_cases h : compareF t a c < 0
  · exact h
  · have h3 : compareF t c a ≤ 0 := by rw [compareF_neg]; omega
    have h4 := compareF_trans hb hc ha h2 h3
    rw [compareF_neg] at h4
    omega
theorem same_fold {t : Nat} {a : Dat} (ha : checkF t a = 0) : sameF t a (foldD t a) = true := by
  have h := foldD_check t a
  unfold sameF compareF
  rw [h, ha, foldD_fold]
  have : cmpL (writeF t (foldD t a)) (writeF t (foldD t a)) = 0 := cb_refl _
  simp [this]
end Go.Proofs.YtfkfjodfjgjbkaaGreatDoor
/- What the statements' helpers do with lists of bytes. -/
namespace Go.Proofs.YtfkfjodfjgjbkaaGreatDoor
open Go.ChangeShapes Go.WideShapes Go.ChangeAt Go.RowKit
set_option linter.unusedVariables false
set_option linter.unusedSimpArgs false








set_option maxRecDepth 100000 in
set_option maxHeartbeats 400000 in
theorem same_yes (a b : Option Addr) (n c d : Nat) (zs : List Int) (w : World) (hr : Rd w a zs) (hr' : Rd w b zs) (hl : zs.length = n) :
    Calls Tryz.prog 33 #[.slice a n c, .slice b n d] w fun e w' => e = .returned (.bool true) ∧ w' = w := by
  have h1 := conv_rd a n c zs w hr hl
  have h2 := conv_rd b n d zs w hr' hl
  clear hr hr'
  generalize txt zs = t at *
  go_enter Tryz.func33, Tryz.ntmps33
  go_wp2
  go_ret
  exact ⟨rfl, rfl⟩
/-- The marks behind a list that is lent. -/
def marks (n : Nat) : List Int := [160 + (n : Int) % 90, 160 + ((n : Int) + 1) % 90, 160 + ((n : Int) + 2) % 90]
def lent (zs : List Int) (k : Nat) : List Int := zs ++ (marks zs.length).take k ++ List.replicate (3 - k) 0
theorem lent_len (zs : List Int) (k : Nat) (h : k ≤ 3) : (lent zs k).length = zs.length + 3 := by
  simp [lent, marks]; omega
theorem lent_step (zs : List Int) (k : Nat) (h : k < 3) : (lent zs k).set (zs.length + k) (160 + ((zs.length : Int) + k) % 90) = lent zs (k + 1) := by
  have : k = 0 ∨ k = 1 ∨ k = 2 := by omega
  rcases this with rfl | rfl | rfl <;> simp [lent, marks, List.replicate]
theorem lent_zero (zs : List Int) : lent zs 0 = zs ++ [0, 0, 0] := by simp [lent, List.replicate]
theorem lent_take (zs : List Int) (k : Nat) : (lent zs k).take zs.length = zs := by simp [lent]
set_option maxRecDepth 100000 in
set_option maxHeartbeats 800000 in
theorem lent_any (a : Option Addr) (cap : Nat) (zs : List Int) (w : World) (hr : Rd w a zs) (hd : a = none → cap = 0) (hm : zs.length ≤ 140737488355328) :
    Calls Tryz.prog 10 #[.slice a zs.length cap] w fun e w' => e = .returned (.slice (some ⟨w.heap.size, 0, none⟩) zs.length (zs.length + 3)) ∧ Blk w' w.heap.size (lent zs 3) ∧ w'.heap.size = w.heap.size + 1 ∧ Below w.heap.size w w' := by
  have HR : Hid (Rd w a zs) := hr
  have HD : Hid (a = none → cap = 0) := hd
  clear hr hd
  obtain ⟨len, hlen⟩ : ∃ len, len = zs.length := ⟨_, rfl⟩
  rw [← hlen] at hm ⊢
  have HL : Hid (len = zs.length) := hlen
  clear hlen
  have hW1 : Blk (w.alloc (.cells (Array.replicate (len + 3) (Value.int .u8 0)) 5)) w.heap.size (List.replicate (len + 3) 0) := by
    refine ⟨?_, fun z hz => ?_⟩
    · rw [heap_alloc_new]; simp
    · rw [(List.mem_replicate.1 hz).2]; omega
  have hb1 : Below w.heap.size w (w.alloc (.cells (Array.replicate (len + 3) (Value.int .u8 0)) 5)) := (Below.refl _ _).alloc (Nat.le_refl _) _
  obtain ⟨W2, hcp, hblk, hsz, hbel⟩ : ∃ W2, (Builtin.copy_ #[27, 27] 3 #[.slice (some ⟨w.heap.size, 0, none⟩) (len + 3) (len + 3), .slice a len cap]).run Tryz.prog (w.alloc (.cells (Array.replicate (len + 3) (Value.int .u8 0)) 5)) = .ok (.int .i64 len) W2 ∧ Hid (Blk W2 w.heap.size (lent zs 0)) ∧ W2.heap.size = w.heap.size + 1 ∧ Below w.heap.size w W2 := by
    refine ⟨_, run_copy_blk _ 3 w.heap.size (len + 3) (len + 3) _ hW1 a len cap zs (HR.out.below hb1) HL.out.symm (by omega) (by simp) HD.out, ?_, ?_, ?_⟩
    · have e : zs ++ (List.replicate (len + 3) (0 : Int)).drop len = lent zs 0 := by
        rw [lent_zero, List.drop_replicate, Nat.add_sub_cancel_left]; rfl
      refine ⟨by rw [setRow_heap _ _ _ _ 5 _ hW1.1, e], fun z hz => ?_⟩
      rw [lent_zero] at hz
      simp only [List.mem_append, List.mem_cons, List.not_mem_nil, or_false, or_self] at hz
      rcases hz with hz | rfl
      · exact HR.out.2 z hz
      · omega
    · simp [World.setRow]
    · exact below_setRow hb1 (Nat.le_refl _) _
  clear hW1 hb1
  go_enter Tryz.func10, Tryz.ntmps10
  go_wp2_with (at_make; refine wpList_make_blk _ rfl _ _ rfl (len + 3) (len + 3) _ _ rfl rfl (by omega) (by omega) (by omega) (by omega) ?_)
  clear hcp
  go_loopw [4] (fun i wr => ∃ k : Nat, k ≤ 3 ∧ i = .int .i64 (len + k : Nat) ∧ Hid (Blk wr w.heap.size (lent zs k)) ∧ wr.heap.size = w.heap.size + 1 ∧ Below w.heap.size w wr) (fun i _ => (len + 3 - (intOf i).toNat))
  case atStart => exact ⟨0, by omega, rfl, hblk, hsz, hbel⟩
  case round =>
    obtain ⟨k, hk, rfl, hB, hz, hbl⟩ := hrel
    by_cases hlt : k < 3
    · have hc := hB.out.cell (len + k) (by rw [lent_len _ _ hk, ← HL.out]; omega)
      have hf := hB.out.frozen (len + k)
      have h1 : ((len + k : Nat) : Int) < (len : Int) + 3 := by omega
      clear hblk hsz hbel
      go_wp2
      refine ⟨⟨k + 1, by omega, by go_num, ?_, ?_, ?_⟩, by simp [intOf]; omega⟩
      · have hst := hB.out.stored (len + k) (160 + ((len : Int) + (k : Int)) % 90) (by omega)
        have e := lent_step zs k hlt
        rw [← HL.out] at e
        rw [e] at hst
        exact hst
      · rw [← hz]; simp [World.setCell]
      · exact hbl.setCell (Nat.le_refl _) _
    · obtain rfl : k = 3 := by omega
      go_wp2
      go_ret
      exact ⟨rfl, hB.out, hz, hbl⟩
/-- A new list of bytes out of 'append([]byte{}, b...)'. -/
theorem empty_own (w : World) : Own w.heap.size (w.alloc (.cells #[] 5)) (.slice (some ⟨w.heap.size, 0, none⟩) 0 0) 0 [] :=
  .inr ⟨w.heap.size, rfl, Nat.le_refl _, ⟨by rw [heap_alloc_new]; rfl, by simp⟩, Nat.le_refl _, Nat.zero_le _⟩
set_option maxRecDepth 100000 in
set_option maxHeartbeats 800000 in
theorem copy_any (a : Option Addr) (cap : Nat) (zs : List Int) (w : World) (hr : Rd w a zs) (hd : a = none → cap = 0) (hm : zs.length ≤ 140737488355328) :
    Calls Tryz.prog 35 #[.slice a zs.length cap] w fun e w' => ∃ v ys, e = .returned v ∧ Own w.heap.size w' v zs.length ys ∧ ys.take zs.length = zs ∧ Below w.heap.size w w' := by
  have HR : Hid (Rd w a zs) := hr
  have HD : Hid (a = none → cap = 0) := hd
  clear hr hd
  obtain ⟨len, hlen⟩ : ∃ len, len = zs.length := ⟨_, rfl⟩
  rw [← hlen] at hm ⊢
  have HL : Hid (len = zs.length) := hlen
  clear hlen
  have hb1 : Below w.heap.size w (w.alloc (.cells #[] 5)) := (Below.refl _ _).alloc (Nat.le_refl _) _
  go_enter Tryz.func35, Tryz.ntmps35
  go_wp2_with (at_builtin; refine wpList_append_blk _ rfl _ _ rfl w.heap.size _ 0 [] rfl (empty_own w) a len cap zs rfl (HR.out.below hb1) HL.out.symm HD.out (by omega) (by simp) ?_; intro v' w' zs' hO hT hG)
  go_ret
  refine ⟨v', zs', rfl, ?_, ?_, ?_⟩
  · have h := hO.out
    rw [Nat.zero_add] at h
    exact h
  · have h := hT.out
    rw [Nat.zero_add] at h
    simpa using h
  · refine hb1.grown hG (by simp) ?_
    intro k hk
    have e : w.heap.size = k := Option.some.inj hk
    omega
set_option maxRecDepth 100000 in
set_option maxHeartbeats 800000 in
theorem clone_any (x : Addr) (cap : Nat) (zs : List Int) (w : World) (hr : Rd w (some x) zs) (hm : zs.length ≤ 140737488355328) :
    Calls Tryz.prog 178 #[.slice (some x) zs.length cap] w fun e w' => ∃ v ys, e = .returned v ∧ Own w.heap.size w' v zs.length ys ∧ ys.take zs.length = zs ∧ Below w.heap.size w w' := by
  have HR : Hid (Rd w (some x) zs) := hr
  clear hr
  obtain ⟨len, hlen⟩ : ∃ len, len = zs.length := ⟨_, rfl⟩
  rw [← hlen] at hm ⊢
  have HL : Hid (len = zs.length) := hlen
  clear hlen
  have hb1 : Below w.heap.size w (w.alloc (.cells #[] 5)) := (Below.refl _ _).alloc (Nat.le_refl _) _
  have hnil : ∀ W : World, (binOp .eql 27 (.slice (some x) len cap) (.slice none 0 0)).run Tryz.prog W = .ok (.bool false) W := fun W => Lib.run_eql_slice_nil W _ _ _ _ _ _ _ Tryz.underlying27
  go_enter Tryz.func178, Tryz.ntmps178
  go_wp2_with (at_builtin; refine wpList_append_blk _ rfl _ _ rfl w.heap.size _ 0 [] rfl (empty_own w) (some x) len cap zs rfl (HR.out.below hb1) HL.out.symm (by simp) (by omega) (by simp) ?_; intro v' w' zs' hO hT hG)
  go_ret
  refine ⟨v', zs', rfl, ?_, ?_, ?_⟩
  · have h := hO.out
    rw [Nat.zero_add] at h
    exact h
  · have h := hT.out
    rw [Nat.zero_add] at h
    simpa using h
  · refine hb1.grown hG (by simp) ?_
    intro k hk
    have e : w.heap.size = k := Option.some.inj hk
    omega
theorem clone_none (w : World) :
    Calls Tryz.prog 178 #[.slice none 0 0] w fun e w' => e = .returned (.slice none 0 0) ∧ w' = w := by
  have hnil : ∀ W : World, (binOp .eql 27 (.slice none 0 0) (.slice none 0 0)).run Tryz.prog W = .ok (.bool true) W := fun W => Lib.run_eql_slice_nil W _ _ _ _ _ _ _ Tryz.underlying27
  go_enter Tryz.func178, Tryz.ntmps178
  go_wp2
  go_ret
  exact ⟨rfl, rfl⟩
/-- What writing over a byte makes of it. -/
def x90 (z : Int) : Int := bits .xor .u8 z 90
theorem x90_eq (z : Int) (h : 0 ≤ z ∧ z ≤ 255) : x90 z = ((z.toNat ^^^ 90 : Nat) : Int) := u8_xor z 90 h.1 (by omega) (by omega) (by omega)
theorem x90_bd (z : Int) (h : 0 ≤ z ∧ z ≤ 255) : 0 ≤ x90 z ∧ x90 z ≤ 255 := by
  rw [x90_eq z h]
  have : z.toNat ^^^ 90 < 2 ^ 8 := Nat.xor_lt_two_pow (by omega) (by omega)
  omega
theorem x90_x90 (z : Int) (h : 0 ≤ z ∧ z ≤ 255) : x90 (x90 z) = z := by
  rw [x90_eq _ (x90_bd z h), x90_eq z h]
  simp [Nat.xor_assoc]
  omega
def over (zs : List Int) (k : Nat) : List Int := (zs.take k).map x90 ++ zs.drop k
theorem over_len (zs : List Int) (k : Nat) : (over zs k).length = zs.length := by simp [over]; omega
theorem over_at (zs : List Int) (k : Nat) (h : k < zs.length) : (over zs k).getD k 0 = zs.getD k 0 := by
  simp [over, List.getD_eq_getElem?_getD, List.getElem?_append, Nat.min_eq_left (Nat.le_of_lt h)]
theorem over_step (zs : List Int) (k : Nat) (h : k < zs.length) : (over zs k).set k (x90 (zs.getD k 0)) = over zs (k + 1) := by
  have e : zs.drop k = zs.getD k 0 :: zs.drop (k + 1) := by
    rw [List.drop_eq_getElem_cons h]; simp [List.getD_eq_getElem?_getD, h]
  have l : ((zs.take k).map x90).length = k := by simp; omega
  unfold over
  rw [e, List.set_append_right _ _ (by omega), l, Nat.sub_self, List.set_cons_zero, take_snoc zs k h]
  simp
theorem over_all (zs : List Int) : over zs zs.length = zs.map x90 := by simp [over]
theorem over_zero (zs : List Int) : over zs 0 = zs := by simp [over]
theorem map_x90_x90 (zs : List Int) (h : ∀ z ∈ zs, 0 ≤ z ∧ z ≤ 255) : (zs.map x90).map x90 = zs := by
  rw [List.map_map]
  conv => rhs; rw [← List.map_id zs]
  exact List.map_congr_left fun z hz => x90_x90 z (h z hz)
/-- A list's address, its length, what its block holds. -/
abbrev Elem := Option Addr × Nat × List Int
/-- The lists lie one behind the other in the block L, each in a block of its own from B on. -/
def Lie (B : Nat) (w : World) (L : Nat) (es : List Elem) : Prop :=
  L < w.heap.size ∧ ∀ k (h : k < es.length), w.cell? ⟨L, k, none⟩ = some (.slice es[k].1 es[k].2.1 es[k].2.2.length) ∧ OwnA B w es[k].1 es[k].2.1 es[k].2.2
/-- No two of them share a block, and none lies in the block L. -/
def Apart (L : Nat) (es : List Elem) : Prop :=
  (∀ k (h : k < es.length), blk es[k].1 ≠ some L) ∧ ∀ j k (hj : j < es.length) (hk : k < es.length), j ≠ k → ∀ g, blk es[j].1 = some g → blk es[k].1 ≠ some g
theorem Lie.below {B : Nat} {w w' : World} {L : Nat} {es : List Elem} (h : Lie B w L es) (hb : Below w.heap.size w w') : Lie B w' L es :=
  ⟨Nat.lt_of_lt_of_le h.1 hb.size, fun k hk => ⟨(hb.cell (p := ⟨L, k, none⟩) h.1).trans (h.2 k hk).1, (h.2 k hk).2.below hb⟩⟩
/-- One of them was written over. -/
theorem Lie.wrote {B : Nat} {w w' : World} {L : Nat} {es : List Elem} (h : Lie B w L es) (ha : Apart L es) (i : Nat) (hi : i < es.length) (zs : List Int) (hl : zs.length = es[i].2.2.length)
    (hg : w.grownBy w' (blk es[i].1)) (hs : w'.heap.size = w.heap.size) (ho : OwnA B w' es[i].1 es[i].2.1 zs) : Lie B w' L (es.set i (es[i].1, es[i].2.1, zs)) := by
  refine ⟨by rw [hs]; exact h.1, fun k hk => ?_⟩
  have hk' : k < es.length := by simpa using hk
  have hcell : w'.cell? ⟨L, k, none⟩ = w.cell? ⟨L, k, none⟩ := World.cell?_of_block (w := w) (hg.block L h.1 (fun e => (ha.1 i hi) e.symm))
  by_cases e : i = k
  · subst e
    rw [List.getElem_set_self, hcell, (h.2 i hi).1]
    exact ⟨by simp [hl], ho⟩
  · rw [List.getElem_set_ne e, hcell]
    refine ⟨(h.2 k hk').1, (h.2 k hk').2.keep fun g hg' hgl => ?_⟩
    exact hg.block g hgl (fun e' => (ha.2 i k hi hk' e g e'.symm) hg')
theorem Apart.set {L : Nat} {es : List Elem} (ha : Apart L es) (i : Nat) (hi : i < es.length) (zs : List Int) : Apart L (es.set i (es[i].1, es[i].2.1, zs)) := by
  have key : ∀ k (h : k < (es.set i (es[i].1, es[i].2.1, zs)).length), (es.set i (es[i].1, es[i].2.1, zs))[k].1 = (es[k]'(by simpa using h)).1 := by
    intro k h
    by_cases e : i = k
    · subst e; simp
    · rw [List.getElem_set_ne e]
  refine ⟨fun k hk => by rw [key]; exact ha.1 k (by simpa using hk), fun j k hj hk hne g => ?_⟩
  rw [key, key]; exact ha.2 j k (by simpa using hj) (by simpa using hk) hne g
/-- Copies of the lists' whole blocks, the first m of them, in blocks from S + 1 on, one behind the other in the block S. -/
def Copies (S : Nat) (w : World) (es : List Elem) (m : Nat) : Prop :=
  S < w.heap.size ∧ (∀ k, k < es.length → (∃ u, w.cell? ⟨S, k, none⟩ = some u) ∧ w.frozen? ⟨S, k, none⟩ = false) ∧
  ∀ k (h : k < es.length), k < m → ∃ ao c, w.cell? ⟨S, k, none⟩ = some (.slice ao es[k].2.2.length c) ∧ Rd w ao es[k].2.2 ∧ ∀ b o, ao = some ⟨b, o, none⟩ → S < b
theorem Copies.below {S : Nat} {w w' : World} {es : List Elem} {m : Nat} (h : Copies S w es m) (hb : Below w.heap.size w w') : Copies S w' es m := by
  refine ⟨Nat.lt_of_lt_of_le h.1 hb.size, fun k hk => ?_, fun k hk hm => ?_⟩
  · rw [hb.cell (p := ⟨S, k, none⟩) h.1, hb.frozen (p := ⟨S, k, none⟩) h.1]; exact h.2.1 k hk
  · obtain ⟨ao, c, h1, h2, h3⟩ := h.2.2 k hk hm
    exact ⟨ao, c, (hb.cell (p := ⟨S, k, none⟩) h.1).trans h1, h2.below hb, h3⟩
/-- A block below S is written: the copies stay. -/
theorem Copies.wrote {S : Nat} {w w' : World} {es : List Elem} {m : Nat} (h : Copies S w es m) {row : Option Nat} (hg : w.grownBy w' row) (hr : ∀ g, row = some g → g < S) : Copies S w' es m := by
  have hS : w'.heap[S]? = w.heap[S]? := hg.block S h.1 (fun e => by have := hr S e.symm; omega)
  refine ⟨Nat.lt_of_lt_of_le h.1 hg.size, fun k hk => ?_, fun k hk hm => ?_⟩
  · rw [World.cell?_of_block (w := w) (a := ⟨S, k, none⟩) hS, World.frozen?_of_block (w := w) (a := ⟨S, k, none⟩) hS]; exact h.2.1 k hk
  · obtain ⟨ao, c, h1, h2, h3⟩ := h.2.2 k hk hm
    refine ⟨ao, c, (World.cell?_of_block (w := w) (a := ⟨S, k, none⟩) hS).trans h1, ?_, h3⟩
    refine ⟨?_, h2.2⟩
    rcases h2.1 with e | ⟨b, o, rfl, e1, e2⟩
    · exact .inl e
    · refine .inr ⟨b, o, rfl, Nat.lt_of_lt_of_le e1 hg.size, fun i hi => ?_⟩
      rw [← e2 i hi]
      refine World.cell?_of_block (w := w) (a := ⟨b, o + i, none⟩) (hg.block b e1 (fun e => ?_))
      have := hr b e.symm
      have := h3 b o rfl
      omega
theorem Apart.of {L : Nat} {es : List Elem} (h1 : ∀ e ∈ es, blk e.1 ≠ some L) (h2 : es.Pairwise fun e f => ∀ g, blk e.1 = some g → blk f.1 ≠ some g) : Apart L es := by
  refine ⟨fun k hk => h1 _ (List.getElem_mem hk), fun j k hj hk hne g h3 h4 => ?_⟩
  rcases Nat.lt_or_gt_of_ne hne with h | h
  · exact List.pairwise_iff_getElem.1 h2 j k hj hk h g h3 h4
  · exact List.pairwise_iff_getElem.1 h2 k j hk hj h g h4 h3
/-- Two lists, the second made when the first was there, share no block. -/
theorem OwnA.apart {B B' : Nat} {w w' : World} {ao bo : Option Addr} {n m : Nat} {zs ys : List Int} (h1 : OwnA B w ao n zs) (h2 : OwnA B' w' bo m ys) (hw : w.heap.size ≤ B') : ∀ g, blk ao = some g → blk bo ≠ some g := by
  intro g e1 e2
  have := (h1.lt g e1).2
  have := (h2.lt g e2).1
  omega
theorem Lie.of {B L : Nat} {w : World} {es : List Elem} (hL : L < w.heap.size) (hc : ∀ k (h : k < es.length), w.cell? ⟨L, k, none⟩ = some (.slice es[k].1 es[k].2.1 es[k].2.2.length)) (ho : ∀ e ∈ es, OwnA B w e.1 e.2.1 e.2.2) : Lie B w L es :=
  ⟨hL, fun k hk => ⟨hc k hk, ho _ (List.getElem_mem hk)⟩⟩
set_option maxRecDepth 100000 in
set_option maxHeartbeats 400000 in
theorem kept_at (g : Nat) (a : Option Addr) (cap len c : Nat) (zs : List Int) (w : World) (hl : zs.length = len) (hb : Blk w g (lent zs 3)) (hr : Rd w a zs) (hd : a = none → cap = 0) (hm : len ≤ 140737488355328) (hc : len ≤ cap) (he : c = len + 3) :
    Calls Tryz.prog 22 #[.slice (some ⟨g, 0, none⟩) len c, .slice a len cap] w fun e w' => e = .returned (.bool true) ∧ Below w.heap.size w w' := by
  have HL : Hid (zs.length = len) := hl
  have HB : Hid (Blk w g (lent zs 3)) := hb
  have HR : Hid (Rd w a zs) := hr
  have HD : Hid (a = none → cap = 0) := hd
  have HE : Hid (c = len + 3) := he
  have hle : (len : Int) + 3 ≤ (c : Int) := by omega
  have hcm : c ≤ 140737488355331 := by omega
  have HX : Hid (∀ W : World, Rd W a zs → Calls Tryz.prog 10 #[.slice a len cap] W fun e w' => e = .returned (.slice (some ⟨W.heap.size, 0, none⟩) len c) ∧ Blk w' W.heap.size (lent zs 3) ∧ w'.heap.size = W.heap.size + 1 ∧ Below W.heap.size W w') := by
    intro W hW
    have := lent_any a cap zs W hW hd (by rw [hl]; exact hm)
    rw [hl, ← he] at this
    exact this
  have HY : Hid (∀ (W : World) (g' m : Nat), m = len + 3 → Blk W g (lent zs 3) → Blk W g' (lent zs 3) → Calls Tryz.prog 33 #[.slice (some ⟨g, 0, none⟩) c c, .slice (some ⟨g', 0, none⟩) m c] W fun e w' => e = .returned (.bool true) ∧ w' = W) := by
    intro W g' m h0 h1 h2
    subst h0
    have hlen : (lent zs 3).length = len + 3 := by rw [lent_len _ _ (Nat.le_refl _), hl]
    have t1 := h1.rd (len + 3)
    have t2 := h2.rd (len + 3)
    rw [List.take_of_length_le (by rw [hlen]; exact Nat.le_refl _)] at t1 t2
    have := same_yes _ _ _ c c _ W t1 t2 hlen
    rw [← he] at this ⊢
    exact this
  have hw : IntKind.i64.wrap ((len : Int) + 3) = (len : Int) + 3 := by rw [IntKind.wrap_i64]; omega
  have hnn : (0 : Int) ≤ (len : Int) + 3 := by omega
  clear hl hb hr hd he
  go_enter Tryz.func22, Tryz.ntmps22
  go_wp2
  go_region_held3 (fun _ => True) (trivial) (first
    | (go_at_call 10; refine (HX.out _ ?_).mono ?_; exact HR.out.drew; rintro e w1 ⟨rfl, hb1, hs1, hbel1⟩)
    | (go_at_call 33; refine (HY.out _ _ _ ?_ ?_ ?_).mono ?_; omega; exact HB.out.drew.below hbel1; exact hb1; rintro e w2 ⟨rfl, rfl⟩))
  go_wp2
  go_ret
  exact ⟨rfl, (Below.refl _ _).drew.trans hbel1⟩
theorem kept_yes (g : Nat) (a : Option Addr) (cap len : Nat) (zs : List Int) (w : World) (hl : zs.length = len) (hb : Blk w g (lent zs 3)) (hr : Rd w a zs) (hd : a = none → cap = 0) (hm : len ≤ 140737488355328) (hc : len ≤ cap) :
    Calls Tryz.prog 22 #[.slice (some ⟨g, 0, none⟩) len (len + 3), .slice a len cap] w fun e w' => e = .returned (.bool true) ∧ Below w.heap.size w w' :=
  kept_at g a cap len (len + 3) zs w hl hb hr hd hm hc rfl
theorem Tryz.info27 : (Tryz.prog.info? 27).map (fun i => (i.zero, i.size, i.bytes)) = some (some (.slice none 0 0), 1, 24) := by kernel_rfl
theorem copies_zero {B : Nat} {w : World} {S n : Nat} {xs : List Value} (es : List Elem) (hn : es.length = n) (h : w.ownsRow B 27 1 (.slice (some ⟨S, 0, none⟩) n n) n xs) : Copies S w es 0 := by
  rcases h.2 with ⟨e, _⟩ | ⟨g, cap, cur, e, _, hg, hc, _, hs, _⟩
  · cases e
  · have e1 : S = g := by injection e with e1 _ _; injection e1 with e1; injection e1
    have e2 : n = cap := by injection e
    subst e1; subst e2
    have hlt : S < w.heap.size := (Array.getElem?_eq_some_iff.1 hg).1
    refine ⟨hlt, fun k hk => ⟨?_, ?_⟩, fun k _ hk => absurd hk (by omega)⟩
    · refine ⟨cur[k]'(by omega), ?_⟩
      have hk' : k < cur.size := by omega
      simp [World.cell?, hg, hk']
    · simp [World.frozen?, hg]
theorem Copies.stored {S : Nat} {w : World} {es : List Elem} {m : Nat} (h : Copies S w es m) (hm : m < es.length) (ao : Option Addr) (c : Nat) (hr : Rd w ao es[m].2.2) (hb : ∀ b o, ao = some ⟨b, o, none⟩ → S < b) :
    Copies S (w.setCell ⟨S, m, none⟩ (.slice ao es[m].2.2.length c)) es (m + 1) := by
  have hsz : (w.setCell ⟨S, m, none⟩ (.slice ao es[m].2.2.length c)).heap.size = w.heap.size := by simp [World.setCell]
  have hoth : ∀ b, S < b → (w.setCell ⟨S, m, none⟩ (.slice ao es[m].2.2.length c)).heap[b]? = w.heap[b]? := fun b hb => Below.heap_setCell _ _ _ b (by show b ≠ S; omega)
  have rdk : ∀ (a' : Option Addr) (zs : List Int), Rd w a' zs → (∀ b o, a' = some ⟨b, o, none⟩ → S < b) → Rd (w.setCell ⟨S, m, none⟩ (.slice ao es[m].2.2.length c)) a' zs :=
    fun a' zs h1 h2 => h1.of_blocks (by rw [hsz]; exact Nat.le_refl _) fun b o e => hoth b (h2 b o e)
  obtain ⟨⟨u, hu⟩, hf⟩ := h.2.1 m hm
  have hat : ∀ k, (w.setCell ⟨S, m, none⟩ (.slice ao es[m].2.2.length c)).cell? ⟨S, k, none⟩ = if k = m then some (.slice ao es[m].2.2.length c) else w.cell? ⟨S, k, none⟩ := by
    intro k
    by_cases e : k = m
    · subst e; rw [if_pos rfl]; exact World.cell?_setCell_same _ _ _ hu
    · rw [if_neg e]; exact World.cell?_setCell_other _ _ _ _ (by intro e'; injection e' with _ e' _; exact e e'.symm)
  refine ⟨by rw [hsz]; exact h.1, fun k hk => ⟨?_, ?_⟩, fun k hk hkm => ?_⟩
  · rw [hat]
    by_cases e : k = m
    · exact ⟨_, if_pos e⟩
    · rw [if_neg e]; exact (h.2.1 k hk).1
  · rw [World.frozen?_setCell]; exact (h.2.1 k hk).2
  · by_cases e : k = m
    · subst e
      exact ⟨ao, c, by rw [hat, if_pos rfl], rdk _ _ hr hb, hb⟩
    · obtain ⟨a', c', h1, h2, h3⟩ := h.2.2 k hk (by omega)
      exact ⟨a', c', by rw [hat, if_neg e]; exact h1, rdk _ _ h2 h3, h3⟩
theorem Lie.stored {B : Nat} {w : World} {L S : Nat} {es : List Elem} (h : Lie B w L es) (hL : L < S) (hS : ∀ k (h : k < es.length) g, blk es[k].1 = some g → g < S) (m : Nat) (u : Value) : Lie B (w.setCell ⟨S, m, none⟩ u) L es := by
  have hoth : ∀ b, b ≠ S → (w.setCell ⟨S, m, none⟩ u).heap[b]? = w.heap[b]? := fun b hb => Below.heap_setCell _ _ _ b hb
  refine ⟨by rw [show (w.setCell ⟨S, m, none⟩ u).heap.size = w.heap.size by simp [World.setCell]]; exact h.1, fun k hk => ⟨?_, ?_⟩⟩
  · rw [World.cell?_of_block (w := w) (a := ⟨L, k, none⟩) (hoth L (by omega))]; exact (h.2 k hk).1
  · exact (h.2 k hk).2.keep fun g hg _ => hoth g (by have := hS k hk g hg; omega)
end Go.Proofs.YtfkfjodfjgjbkaaGreatDoor
