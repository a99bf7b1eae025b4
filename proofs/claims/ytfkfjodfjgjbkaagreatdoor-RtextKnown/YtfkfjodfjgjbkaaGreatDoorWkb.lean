/- Texts laid together: Qm Qn Qr Qo Qt Qu Qw Qx. -/
import Derived.Test.YtfkfjodfjgjbkaaGreatDoorWka
/- Data are read of their own words: Parse. -/
namespace Go.Proofs.YtfkfjodfjgjbkaaGreatDoor
open Go.ChangeShapes Go.WideShapes Go.ChangeAt Go.RowKit
set_option linter.unusedVariables false
set_option linter.unusedSimpArgs false

theorem fl2 (D : Int → Int) (zs : List Int) (k : Nat) (h : k < zs.length) : (zs.flatMap fun z => [D (z / 16), D (z % 16)]).getD (2 * k) 0 = D (zs[k] / 16) ∧ (zs.flatMap fun z => [D (z / 16), D (z % 16)]).getD (2 * k + 1) 0 = D (zs[k] % 16) := by
  induction zs generalizing k with
  | nil => simp at h
  | cons z zs ih =>
    cases k with
    | zero => simp [List.flatMap_cons]
    | succ k =>
      have := ih k (by simpa using h)
      rw [List.flatMap_cons, show 2 * (k + 1) = (2 * k + 1) + 1 by omega, show (2 * k + 1) + 1 + 1 = (2 * k + 1 + 1) + 1 by omega]
      simpa [List.getD_cons_succ] using this
theorem hex_prs (D : Int → Int) (hD : ∀ v, 0 ≤ v ∧ v < 16 → wv (D v) = v) (zs : List Int) (hz : ∀ z ∈ zs, 0 ≤ z ∧ z ≤ 255) :
    (∀ k, k < zs.length → okp (zs.flatMap fun z => [D (z / 16), D (z % 16)]) k) ∧ prs (zs.flatMap fun z => [D (z / 16), D (z % 16)]) zs.length = zs := by
  have key : ∀ k (h : k < zs.length), wv ((zs.flatMap fun z => [D (z / 16), D (z % 16)]).getD (2 * k) 0) = zs[k] / 16 ∧ wv ((zs.flatMap fun z => [D (z / 16), D (z % 16)]).getD (2 * k + 1) 0) = zs[k] % 16 := by
    intro k h
    have hb := hz _ (List.getElem_mem h)
    obtain ⟨h1, h2⟩ := fl2 D zs k h
    rw [h1, h2]
    exact ⟨hD _ (by omega), hD _ (by omega)⟩
  refine ⟨fun k h => ?_, ?_⟩
  · have hb := hz _ (List.getElem_mem h)
    obtain ⟨h1, h2⟩ := key k h
    unfold okp
    rw [h1, h2]
    omega
  · apply List.ext_getElem (by rw [prs_len])
    intro k h1 h2
    obtain ⟨g1, g2⟩ := key k h2
    simp only [prs, List.getElem_map, List.getElem_range, pv]
    rw [g1, g2]
    omega
theorem low_hex (zs : List Int) (hz : ∀ z ∈ zs, 0 ≤ z ∧ z ≤ 255) : (∀ k, k < zs.length → okp (xhexs zs) k) ∧ prs (xhexs zs) zs.length = zs := by
  have h1 := hex_prs (fun v => xhd v.toNat) (fun v hv => by rw [← dg_hd v hv]; exact wv_dg v hv) zs hz
  exact h1
theorem ndata (s : ByteArray) : nums (⟨s.data.toList.toArray⟩ : ByteArray) = nums s := by simp
/-- The words, as they are read. -/
theorem terms_n (ns : List (List ByteArray)) (h : ∀ n ∈ ns, nck n = 0) : (ns.map fun n => (ntext n).1).map xterm = ns.map nW := by
  rw [List.map_map]; exact List.map_congr_left fun n hn => xterm_name n (h n hn)
theorem terms_u (us : List Nat) : (us.map xnw).map xterm = us.map uW := by
  rw [List.map_map]; exact List.map_congr_left fun n hn => xterm_n n
theorem terms_t (ts : List ByteArray) : (ts.map xqw).map xterm = ts.map tW := by
  rw [List.map_map]; exact List.map_congr_left fun n hn => xterm_q n
set_option maxHeartbeats 1000000 in
theorem parse_raw (t : Nat) (raw : List Int) (hb : ∀ c ∈ raw, 0 ≤ c ∧ c ≤ 255) (hl : raw.length ≤ 65535) (a : Option Addr) (c : Nat) (oa : Option Addr) (on oc : Nat) (w : World) (hd : readF t raw = (⟨[], [], [], raw⟩, 0))
    (hw : RdW w a ((hashW raw).map xterm)) (hc : ((hashW raw).map xterm).length ≤ c) (h63 : c ≤ 9223372036854775807) :
    Calls Tryz.prog 61 #[.int .u16 (t : Int), .slice a ((hashW raw).map xterm).length c, .slice oa on oc] w fun e w' => ∃ x : DA, e = .returned (.tuple #[.agg #[.slice x.p1.a x.p1.n x.p1.c, .slice x.p2.a x.p2.n x.p2.c, .slice x.p3.a x.p3.n x.p3.c, .slice x.p4.a x.p4.n x.p4.c], .bool true]) ∧ Hid (DOwn w.heap.size w' x ⟨[], [], [], raw⟩ ∧ Below w.heap.size w w') := by
  have hs : xterm (lb [92, 35]) = (⟨#[92, 35]⟩, false) := by rw [xterm_no _ (by rw [nums_lb _ (by decide)]; decide)]; rfl
  have hx : ∀ c ∈ xhexs raw, 0 ≤ c ∧ c ≤ 255 := fun c hc => by have := xhexs_by raw hb c hc; omega
  obtain ⟨ps, hps, hcat⟩ : ∃ ps : List Wd, (hashW raw).map xterm = (⟨#[92, 35]⟩, false) :: uW raw.length :: ps ∧ nums ⟨(catL ps).toArray⟩ = xhexs raw := by
    unfold hashW
    by_cases h0 : raw = []
    · subst h0
      exact ⟨[], by simp [hs, xterm_n], by simp [catL, xhexs]; rfl⟩
    · have hh : xterm (lb (xhexs raw)) = (lb (xhexs raw), false) := by
        apply xterm_no
        rw [nums_lb _ hx]
        intro e
        have := xhexs_by raw hb 34 (List.mem_of_mem_head? e)
        omega
      exact ⟨[(lb (xhexs raw), false)], by simp [hs, xterm_n, h0, hh], by simp [catL, nums_lb _ hx]⟩
  rw [hps] at hw hc ⊢
  obtain ⟨b, o, rfl, hbb, _, _, hr⟩ := hw.head
  have hlen : (catL ps).length = 2 * raw.length := by
    have : (nums ⟨(catL ps).toArray⟩).length = (xhexs raw).length := by rw [hcat]
    rw [nums_len, xhexs_len] at this
    simpa [ByteArray.size] using this
  obtain ⟨l1, l2⟩ := low_hex raw hb
  have h10 := xdec_len10 raw.length (by omega)
  have hc' : ps.length + 2 ≤ c := by simpa using hc
  refine readH_ok t b o (uW raw.length) ps c oa on oc ⟨[], [], [], raw⟩ w hw hc' h63 (fun W hW => ?_)
  exact hashed_ok t b (o + 2) (xnw raw.length) false ps (c - 1) W (hr.below hW) (by omega) (by omega) raw.length (by rw [← nums_len, xnw_nums]; omega) (by rw [xnw_nums]; exact xnum_dec _ _ (by have : (2 : Nat) ^ 32 = 4294967296 := (by decide); omega)) raw.length hlen (by omega) (by rw [hcat]; exact l1) _ rfl (by rw [hcat, l2]; exact hd)
end Go.Proofs.YtfkfjodfjgjbkaaGreatDoor
/- Data are read of their own words: Parse, of any type. -/
namespace Go.Proofs.YtfkfjodfjgjbkaaGreatDoor
open Go.ChangeShapes Go.WideShapes Go.ChangeAt Go.RowKit
set_option linter.unusedVariables false
set_option linter.unusedSimpArgs false

set_option maxHeartbeats 1000000 in
theorem read_words (t : Nat) (d : Dat) (og : List ByteArray) (a : Option Addr) (c : Nat) (oa : Option Addr) (on oc : Nat) (w : World) (hck : checkF t d = 0) (hb : ∀ z ∈ d.raw, 0 ≤ z ∧ z ≤ 255) (hg : nck og = 0) (hog : Nm w oa on og) (hE : LayE w)
    (hw : RdW w a ((xwords t d).map xterm)) (hc : ((xwords t d).map xterm).length ≤ c) (h63 : c ≤ 9223372036854775807) :
    Calls Tryz.prog 61 #[.int .u16 (t : Int), .slice a ((xwords t d).map xterm).length c, .slice oa on oc] w fun e w' => ∃ x : DA, e = .returned (.tuple #[.agg #[.slice x.p1.a x.p1.n x.p1.c, .slice x.p2.a x.p2.n x.p2.c, .slice x.p3.a x.p3.n x.p3.c, .slice x.p4.a x.p4.n x.p4.c], .bool true]) ∧ Hid (DOwn w.heap.size w' x d ∧ Below w.heap.size w w') := by
  obtain ⟨hm, hf, hn, hz⟩ := check_parts hck
  have hrw := read_write t d hck
  have hl65 : lb [92, 35] = (⟨#[92, 35]⟩ : ByteArray) := rfl
  obtain ⟨ns, us, ts, raw⟩ := d
  unfold fitsB at hf
  simp only [Bool.and_eq_true, decide_eq_true_eq, Bool.or_eq_true, List.all_eq_true] at hf
  obtain ⟨⟨⟨⟨⟨⟨⟨f1, f2⟩, f3⟩, f4⟩, f5⟩, f6⟩, f7⟩, f8⟩ := hf
  have hz2 : raw.length ≤ 65535 := by unfold sizesF at hz; simp only at hz; omega
  have hz3 : tsz t ts ≤ 65535 := by unfold sizesF at hz; simp only at hz; omega
  have addr : ∀ (t : Nat), (t = 1 ∨ t = 28) → (raw.length = 4 ∨ raw.length = 16) → ∀ (hb : ∀ z ∈ raw, 0 ≤ z ∧ z ≤ 255), RdW w a ((xwords t ⟨[], [], [], raw⟩).map xterm) → ((xwords t ⟨[], [], [], raw⟩).map xterm).length ≤ c →
      Calls Tryz.prog 61 #[.int .u16 (t : Int), .slice a ((xwords t ⟨[], [], [], raw⟩).map xterm).length c, .slice oa on oc] w fun e w' => ∃ x : DA, e = .returned (.tuple #[.agg #[.slice x.p1.a x.p1.n x.p1.c, .slice x.p2.a x.p2.n x.p2.c, .slice x.p3.a x.p3.n x.p3.c, .slice x.p4.a x.p4.n x.p4.c], .bool true]) ∧ Hid (DOwn w.heap.size w' x ⟨[], [], [], raw⟩ ∧ Below w.heap.size w w') := by
    intro t ht hr hb hw hc
    obtain ⟨s, e⟩ := xaddr_some raw hr
    obtain ⟨a1, a2, a3⟩ := addr_term s (xaddr_ok _ _ e)
    have ew : (xwords t ⟨[], [], [], raw⟩).map xterm = [(lb s, false)] := by
      unfold xwords
      rw [if_pos ht]
      simp [e, a2]
    rw [ew] at hw hc ⊢
    refine read_ok t a [(lb s, false)] c oa on oc _ w (by simp [← hl65, a3]) hw (fun w0 h0 => ?_)
    exact readAD t ht w0 a (lb s) c oa on oc raw (xaddr_size raw s hb e) (by rw [a1]; exact xaddr_back raw s hb e) (hE.below h0) (hw.below h0) hc h63
  rcases shp_cases t with ⟨ht, e⟩ | ⟨ht, e⟩ | ⟨ht, e⟩ | ⟨ht, e⟩ | ⟨ht, e⟩ | ⟨ht, e⟩ | ⟨ht, e⟩ | ⟨ht, e⟩ | ⟨ht, e⟩
  all_goals rw [e] at f1 f2 f3 f4 f5 f6
  all_goals simp only at f1 f2 f3 f4 f5 f6 hn hb
  · have e1 : ns = [] := List.length_eq_zero_iff.1 f1
    have e2 : us = [] := List.length_eq_zero_iff.1 f2
    have e3 : ts = [] := List.length_eq_zero_iff.1 (by omega)
    subst e1 e2 e3
    exact addr t (.inl ht) (.inl (by omega)) hb hw hc
  · have e1 : ns = [] := List.length_eq_zero_iff.1 f1
    have e2 : us = [] := List.length_eq_zero_iff.1 f2
    have e3 : ts = [] := List.length_eq_zero_iff.1 (by omega)
    subst e1 e2 e3
    exact addr t (.inr ht) (.inr (by omega)) hb hw hc
  · have e2 : us = [] := List.length_eq_zero_iff.1 f2
    have e3 : ts = [] := List.length_eq_zero_iff.1 (by omega)
    have e4 : raw = [] := List.length_eq_zero_iff.1 (by omega)
    subst e2 e3 e4
    match ns, f1, hn with
    | [nm], _, hn =>
      have hnm := hn nm (by simp)
      have ew : (xwords t ⟨[nm], [], [], []⟩).map xterm = [nW nm] := by
        unfold xwords
        rw [if_neg (by omega), if_neg (by rcases ht with rfl | rfl | rfl <;> decide), if_neg (by omega)]
        simp [xtw, xterm_name nm hnm, show ¬ t = 257 by omega]
      rw [ew] at hw hc ⊢
      refine read_ok t a [nW nm] c oa on oc _ w (by simp [← hl65, name_ne nm hnm]) hw (fun w0 h0 => ?_)
      exact readNS t ht w0 a (ntext nm).1 c oa on oc og nm (by have := ntext_size hnm; omega) (rel_text nm og hnm hg) (hw.below h0) hc h63 (hog.below h0)
    | [], f1, _ => simp at f1
    | x :: y :: r, f1, _ => simp at f1
  · have e3 : ts = [] := List.length_eq_zero_iff.1 (by omega)
    have e4 : raw = [] := List.length_eq_zero_iff.1 (by omega)
    subst e3 e4 ht
    have ew : (xwords 6 ⟨ns, us, [], []⟩).map xterm = ns.map nW ++ (us.map uW ++ []) := by
      unfold xwords
      rw [if_neg (by omega), if_neg (by decide), if_pos rfl, List.map_append, terms_n ns hn, terms_u, List.append_nil]
    rw [ew] at hw hc ⊢
    refine read_ok 6 a _ c oa on oc _ w ?_ hw (fun w0 h0 => readSOA w0 a us ns c oa on oc og f2 f1 (fun n h => by have := f6 n h; simp [most] at this; omega) hn hg (hw.below h0) hc h63 (hog.below h0))
    cases ns with
    | nil => simp at f1
    | cons n ns => simp [← hl65, name_ne n (hn n (by simp))]
  · have e3 : ts = [] := List.length_eq_zero_iff.1 (by omega)
    have e4 : raw = [] := List.length_eq_zero_iff.1 (by omega)
    subst e3 e4 ht
    have ew : (xwords 15 ⟨ns, us, [], []⟩).map xterm = us.map uW ++ (ns.map nW ++ []) := by
      unfold xwords
      rw [if_neg (by omega), if_neg (by decide), if_neg (by omega)]
      simp only [xtw, show ¬ (15 : Nat) = 257 by omega, if_false, List.map_nil, List.append_nil, List.map_append, terms_n ns hn, terms_u]
    rw [ew] at hw hc ⊢
    refine read_ok 15 a _ c oa on oc _ w ?_ hw (fun w0 h0 => readMX 15 1 (.inl ⟨rfl, rfl⟩) w0 a us ns c oa on oc og f2 f1 (fun n h => by have := f6 n h; simp [most] at this; omega) hn hg (hw.below h0) hc h63 (hog.below h0))
    cases us with
    | nil => simp at f2
    | cons n ns => simp [← hl65, num_ne]
  · have e3 : ts = [] := List.length_eq_zero_iff.1 (by omega)
    have e4 : raw = [] := List.length_eq_zero_iff.1 (by omega)
    subst e3 e4 ht
    have ew : (xwords 33 ⟨ns, us, [], []⟩).map xterm = us.map uW ++ (ns.map nW ++ []) := by
      unfold xwords
      rw [if_neg (by omega), if_neg (by decide), if_neg (by omega)]
      simp only [xtw, show ¬ (33 : Nat) = 257 by omega, if_false, List.map_nil, List.append_nil, List.map_append, terms_n ns hn, terms_u]
    rw [ew] at hw hc ⊢
    refine read_ok 33 a _ c oa on oc _ w ?_ hw (fun w0 h0 => readMX 33 3 (.inr ⟨rfl, rfl⟩) w0 a us ns c oa on oc og f2 f1 (fun n h => by have := f6 n h; simp [most] at this; omega) hn hg (hw.below h0) hc h63 (hog.below h0))
    cases us with
    | nil => simp at f2
    | cons n ns => simp [← hl65, num_ne]
  · have e1 : ns = [] := List.length_eq_zero_iff.1 f1
    have e2 : us = [] := List.length_eq_zero_iff.1 f2
    have e4 : raw = [] := List.length_eq_zero_iff.1 (by omega)
    subst e1 e2 e4 ht
    have hne : ts ≠ [] := by rintro rfl; simp at f4
    have ew : (xwords 16 ⟨[], [], ts, []⟩).map xterm = ts.map tW ++ [] := by
      unfold xwords
      rw [if_neg (by omega), if_neg (by decide), if_neg (by omega)]
      simp only [xtw, show ¬ (16 : Nat) = 257 by omega, if_false, List.map_nil, List.nil_append, List.append_nil, terms_t]
    have h7 : ∀ s ∈ ts, s.size ≤ 255 := by
      rcases f7 with h | h
      · exact absurd rfl h
      · exact h
    have hl : ts.length ≤ 65535 := by
      unfold tsz at hz3
      rw [if_pos rfl] at hz3
      have h2 := nby_len ts
      have h3 := nsz_len ts
      omega
    rw [ew] at hw hc ⊢
    refine read_ok 16 a _ c oa on oc _ w ?_ hw (fun w0 h0 => readTXT w0 a ts c oa on oc hne (by omega) (fun s hs => by have := h7 s hs; omega) (hE.below h0) (hw.below h0) hc h63)
    cases ts with
    | nil => exact absurd rfl hne
    | cons s ts => simp
  · have e1 : ns = [] := List.length_eq_zero_iff.1 f1
    have e4 : raw = [] := List.length_eq_zero_iff.1 (by omega)
    subst e1 e4 ht
    match us, f2, f6 with
    | [u], _, f6 =>
      match ts, f3, f8, hz3 with
      | [p, q], _, f8, hz3 =>
        have hu := f6 u (by simp)
        have h8 : tagB p = true := by
          rcases f8 with h | h
          · exact absurd rfl h
          · simpa using h
        unfold tagB at h8
        simp only [Bool.and_eq_true] at h8
        have hta : xterm p = (p, false) := by
          apply xterm_no
          intro e
          have := List.all_eq_true.1 h8.2 34 (List.mem_of_mem_head? e)
          revert this; decide
        have ew : (xwords 257 ⟨[], [u], [p, q], []⟩).map xterm = [uW u, (p, false), tW q] := by
          unfold xwords
          rw [if_neg (by omega), if_neg (by decide), if_neg (by omega)]
          simp [xtw, hta, xterm_n, xterm_q]
        unfold tsz at hz3
        rw [if_neg (by omega)] at hz3
        simp only [List.flatMap_cons, List.flatMap_nil, List.append_nil, nums_len] at hz3
        rw [ew] at hw hc ⊢
        refine read_ok 257 a _ c oa on oc _ w (by simp [← hl65, num_ne]) hw (fun w0 h0 => readCAA w0 a u p q c oa on oc (by simp [most] at hu; omega) (by omega) (by omega) (hE.below h0) (hw.below h0) hc h63)
      | [], f3, _, _ => simp at f3
      | [a], f3, _, _ => simp at f3
      | a :: b :: c :: r, f3, _, _ => simp at f3; omega
    | [], f2, _ => simp at f2
    | x :: y :: r, f2, _ => simp at f2
  · have e1 : ns = [] := List.length_eq_zero_iff.1 f1
    have e2 : us = [] := List.length_eq_zero_iff.1 f2
    have e3 : ts = [] := List.length_eq_zero_iff.1 (by omega)
    subst e1 e2 e3
    obtain ⟨h1, h2, h3, h4, h5, h6, h7, h8, h9, h10⟩ := ht
    have hk : xkn t = false := by simp [xkn, h1, h2, h3, h4, h5, h6, h7, h8, h9, h10]
    have ewr : writeF t ⟨[], [], [], raw⟩ = raw := by
      unfold writeF
      rw [if_neg h6]
      simp [tsB, h9]
    have hx : xwords t ⟨[], [], [], raw⟩ = hashW raw := by
      unfold xwords hashW
      rw [if_neg (by omega), if_pos hk]
    rw [hx] at hw hc ⊢
    exact parse_raw t raw hb hz2 a c oa on oc w (readF_write t _ _ hck ewr hz2) hw hc h63
/-- Parse of data's own words. -/
theorem parse_words (t : Nat) (d : Dat) (og : List ByteArray) (a : Option Addr) (c : Nat) (oa : Option Addr) (on oc : Nat) (w : World) (hck : checkF t d = 0) (hB : Bd d) (hb : ∀ z ∈ d.raw, 0 ≤ z ∧ z ≤ 255) (hg : nck og = 0) (hog : Nm w oa on og) (hE : LayE w)
    (hw : RdW w a ((xwords t d).map xterm)) (hc : ((xwords t d).map xterm).length ≤ c) (h63 : c ≤ 9223372036854775807) :
    Calls Tryz.prog 26 #[.int .u16 (t : Int), .slice a ((xwords t d).map xterm).length c, .slice oa on oc] w (PrPost d w) :=
  parse_ok t _ oa on oc og d w hog hg (check_parts hck).1 hB hck (fun W hW => read_words t d og a c oa on oc W hck hb hg (hog.below hW) (hE.below hW) (hw.below hW) hc h63)
end Go.Proofs.YtfkfjodfjgjbkaaGreatDoor
/- Pick, decimal digits. -/
namespace Go.Proofs.YtfkfjodfjgjbkaaGreatDoor
open Go.ChangeShapes Go.WideShapes Go.ChangeAt Go.RowKit
set_option linter.unusedVariables false
set_option linter.unusedSimpArgs false

theorem ret_i {a b : Int} (h : a = b) : Ending.returned (.int .i64 a) = Ending.returned (.int .i64 b) := by rw [h]
set_option maxHeartbeats 400000 in
theorem pick6 (x n : Int) (w : World) (hn : 1 ≤ n ∧ n ≤ 4611686018427387904) :
    Calls Tryz.prog 29 #[.int .i64 x, .int .i64 n] w fun e w' => (∃ r : Nat, (r : Int) < n ∧ e = .returned (.int .i64 r)) ∧ w' = w := by
  have h1 : ¬ n < 1 := by omega
  have hn0 : ¬ n = 0 := by omega
  have l1 : x.tmod n < n := Int.tmod_lt_of_pos x (by omega)
  have l2 : -n < x.tmod n := by
    have := Int.tmod_lt_of_pos (-x) (show 0 < n by omega)
    rw [Int.neg_tmod] at this
    omega
  by_cases h0 : x.tmod n < 0
  · go_enter Tryz.func29, Tryz.ntmps29
    go_wp2
    go_ret
    exact ⟨⟨(x.tmod n + n).toNat, by omega, ret_i (by omega)⟩, rfl⟩
  · go_enter Tryz.func29, Tryz.ntmps29
    go_wp2
    go_ret
    exact ⟨⟨(x.tmod n).toNat, by omega, ret_i (by omega)⟩, rfl⟩
theorem lb_app (a b : List Int) : lb (a ++ b) = lb a ++ lb b := by
  have : (lb (a ++ b)).data.toList = (lb a ++ lb b).data.toList := by simp [lb, txt]
  cases h1 : lb (a ++ b) with
  | mk x =>
    cases h2 : lb a ++ lb b with
    | mk y =>
      rw [h1, h2] at this
      simp only at this
      rw [← Array.toArray_toList (xs := x), this, Array.toArray_toList]
set_option maxRecDepth 100000 in
set_option maxHeartbeats 1000000 in
theorem dec_small (n : Nat) (h : n < 10) (w : World) : Calls Tryz.prog 30 #[.int .i64 (n : Int)] w fun e w' => e = .returned (.string (xnw n)) ∧ Hid (Below w.heap.size w w') := by
  have h' : (n : Int) < 10 := by omega
  have hr := conv_rd (some ⟨w.heap.size, 0, none⟩) 1 1 [48 + (n : Int)] (w.alloc (.cells #[.int .u8 (48 + (n : Int))] 5)) (new_rd w _ (by omega)) rfl
  have hx : (⟨(txt [48 + (n : Int)]).toArray⟩ : ByteArray) = xnw n := by unfold xnw; rw [xdec_small h]; rfl
  rw [hx] at hr
  go_enter Tryz.func30, Tryz.ntmps30
  go_wp2_with fail
  go_ret
  exact ⟨rfl, new_below _ _⟩
set_option maxRecDepth 100000 in
set_option maxHeartbeats 1000000 in
theorem dec6 (n : Nat) (h : n < 1000000) (w : World) : Calls Tryz.prog 30 #[.int .i64 (n : Int)] w fun e w' => e = .returned (.string (xnw n)) ∧ Hid (Below w.heap.size w w') := by
  induction n using Nat.strongRecOn generalizing w with
  | _ n ih =>
    by_cases hs : n < 10
    · exact dec_small n hs w
    · have hs' : ¬ (n : Int) < 10 := by omega
      have e1 : (n : Int).tdiv 10 = ((n / 10 : Nat) : Int) := by rw [Int.tdiv_eq_ediv_of_nonneg (by omega)]; omega
      have e2 : (n : Int).tmod 10 = ((n % 10 : Nat) : Int) := by rw [Int.tmod_eq_emod_of_nonneg (by omega)]; omega
      have K1 : Hid (∀ W, Calls Tryz.prog 30 #[.int .i64 ((n / 10 : Nat) : Int)] W fun e w' => e = .returned (.string (xnw (n / 10))) ∧ Hid (Below W.heap.size W w')) := fun W => ih (n / 10) (by omega) (by omega) W
      have K2 : Hid (∀ W, Calls Tryz.prog 30 #[.int .i64 ((n % 10 : Nat) : Int)] W fun e w' => e = .returned (.string (xnw (n % 10))) ∧ Hid (Below W.heap.size W w')) := fun W => dec_small (n % 10) (by omega) W
      have HX : Hid (xnw (n / 10) ++ xnw (n % 10) = xnw n) := by
        show _ = _
        unfold xnw
        rw [xdec_big hs, xdec_small (show n % 10 < 10 by omega), lb_app]
      have z1 : (xnw (n / 10)).size ≤ 10 := by rw [← nums_len, xnw_nums]; exact xdec_len10 _ (by omega)
      have z2 : (xnw (n % 10)).size ≤ 10 := by rw [← nums_len, xnw_nums]; exact xdec_len10 _ (by omega)
      have e3 : ((n / 10 : Nat) : Int) = (n : Int) / 10 := by omega
      have e4 : ((n % 10 : Nat) : Int) = (n : Int) % 10 := by omega
      rw [e3] at K1
      rw [e4] at K2
      clear ih e1 e2 e3 e4
      generalize xnw (n / 10) = s1 at *
      generalize xnw (n % 10) = s2 at *
      go_enter Tryz.func30, Tryz.ntmps30
      go_wp2_with fail
      refine (K1.out _).mono ?_
      rintro e w1 ⟨rfl, H1⟩
      go_wp2_with fail
      refine (K2.out _).mono ?_
      rintro e w2 ⟨rfl, H2⟩
      go_wp2_with fail
      go_ret
      refine ⟨?_, H1.out.trans (H2.out.mono H1.out.size)⟩
      rw [← HX.out]; rfl
end Go.Proofs.YtfkfjodfjgjbkaaGreatDoor
/- Words as terms. -/
namespace Go.Proofs.YtfkfjodfjgjbkaaGreatDoor
open Go.ChangeShapes Go.WideShapes Go.ChangeAt Go.RowKit
set_option linter.unusedVariables false
set_option linter.unusedSimpArgs false

def cellsW (ws : List Wd) : List Value := ws.flatMap fun p => [.string p.1, .bool p.2]
theorem cellsW_len (ws : List Wd) : (cellsW ws).length = ws.length * 2 := by
  induction ws with
  | nil => rfl
  | cons p ws ih => simp only [cellsW, List.flatMap_cons, List.length_append, List.length_cons, List.length_nil] at ih ⊢; omega
theorem cellsW_at (ws : List Wd) (k : Nat) (h : k < ws.length) : (cellsW ws)[2 * k]? = some (.string ws[k].1) ∧ (cellsW ws)[2 * k + 1]? = some (.bool ws[k].2) := by
  induction ws generalizing k with
  | nil => simp at h
  | cons p ws ih =>
    cases k with
    | zero => simp [cellsW, List.flatMap_cons]
    | succ k =>
      have := ih k (by simpa using h)
      rw [show 2 * (k + 1) = 2 * k + 1 + 1 by omega, show 2 * k + 1 + 1 + 1 = (2 * k + 1) + 1 + 1 by omega]
      simpa [cellsW, List.flatMap_cons] using this
theorem cellsW_app (a b : List Wd) : cellsW (a ++ b) = cellsW a ++ cellsW b := by simp [cellsW]
theorem cellsW_one (ws : List Wd) : ∀ u ∈ cellsW ws, u.oneCell' = true := by
  intro u hu
  simp only [cellsW, List.mem_flatMap] at hu
  obtain ⟨p, _, hu⟩ := hu
  simp at hu
  rcases hu with rfl | rfl <;> rfl
theorem row_rdw {B : Nat} {w : World} {v : Value} {ws : List Wd} (h : w.ownsRow B 59 2 v ws.length (cellsW ws)) : ∃ a c, v = .slice a ws.length c ∧ RdW w a ws ∧ ws.length ≤ c ∧ c ≤ 9223372036854775807 := by
  rcases h.2 with ⟨rfl, h0⟩ | ⟨g, cap, cur, rfl, hb, hg, h1, h2, h3, h4⟩
  · have : ws = [] := List.length_eq_zero_iff.1 h0
    subst this
    exact ⟨none, 0, rfl, .inl rfl, by simp, by omega⟩
  · refine ⟨_, cap, rfl, .inr ⟨g, 0, rfl, (Array.getElem?_eq_some_iff.1 hg).1, fun i hi => ?_⟩, h1, by simpa only [maxLen] using h2⟩
    obtain ⟨c1, c2⟩ := cellsW_at ws i hi
    have k1 := h.cells (g := g) rfl (2 * i) _ c1
    have k2 := h.cells (g := g) rfl (2 * i + 1) _ c2
    have ad : ∀ j, (⟨g, 0, none⟩ : Addr).add j = ⟨g, 0 + j, none⟩ := fun j => by unfold Addr.add; split <;> simp_all
    rw [ad] at k1 k2
    exact ⟨k1, k2⟩
theorem inf59 : (Tryz.prog.info? 59).map (fun i => (i.zero, i.size, i.bytes)) = some (some (.agg #[.string ⟨#[]⟩, .bool false]), 2, 24) := by kernel_rfl
theorem inf59' : ∃ i, Tryz.prog.info? 59 = some i ∧ i.zero = some (.agg #[.string ⟨#[]⟩, .bool false]) ∧ i.size = 2 ∧ i.bytes = 24 := by
  obtain ⟨i, h1, h2⟩ := Option.map_eq_some_iff.1 inf59
  simp only [Prod.mk.injEq] at h2
  exact ⟨i, h1, h2.1, h2.2.1, h2.2.2⟩
theorem one_termw (w : World) (s : ByteArray) (q : Bool) : ∀ j u, (cellsW [(s, q)])[j]? = some u → (w.alloc (.cells #[.string s, .bool q] 59)).cell? ((⟨w.heap.size, 0, none⟩ : Addr).add j) = some u := by
  intro j u hu
  have ad : (⟨w.heap.size, 0, none⟩ : Addr).add j = ⟨w.heap.size, j, none⟩ := by unfold Addr.add; split <;> simp_all
  rw [ad]
  unfold World.cell?
  rw [heap_alloc_new]
  match j, hu with
  | 0, hu => simpa [cellsW] using hu
  | 1, hu => simpa [cellsW] using hu
  | j + 2, hu => simp [cellsW] at hu
/-- A word in quotes, or not. -/
theorem term_q (s : ByteArray) (h : 2 ≤ s.size) (h0 : 0 < s.size) (hq : ((s[0].toNat : Nat) : Int) = 34) : xterm s = (s.extract 1 (s.size - 1), true) := by
  have hh : (nums s).head? = some 34 := by
    have := nums_at s 0 h0
    have hl := nums_len s
    cases hn : nums s with
    | nil => rw [hn] at hl; simp at hl; omega
    | cons a l =>
      rw [hn] at this
      simp only [List.getD_cons_zero] at this
      rw [List.head?_cons, this, hq]
  unfold xterm
  rw [if_pos ⟨hh, h⟩]
  have hl := nums_len s
  have e : nums (s.extract 1 (s.size - 1)) = (nums s).tail.dropLast := by
    rw [nums_extract2, ← hl, ← List.dropLast_eq_take, List.drop_one, List.tail_dropLast]
  rw [← e, lb_nums]
theorem term_nq (s : ByteArray) (h : ¬ 2 ≤ s.size ∨ ∃ h0 : 0 < s.size, ¬ ((s[0].toNat : Nat) : Int) = 34) : xterm s = (s, false) := by
  unfold xterm
  rw [if_neg]
  rintro ⟨h1, h2⟩
  rcases h with h | ⟨h0, hq⟩
  · exact h h2
  · apply hq
    have := nums_at s 0 h0
    cases hn : nums s with
    | nil => rw [hn] at h1; cases h1
    | cons a l =>
      rw [hn] at this h1
      simp only [List.getD_cons_zero, List.head?_cons, Option.some.injEq] at this h1
      rw [← this, h1]
set_option maxRecDepth 100000 in
set_option maxHeartbeats 4000000 in
theorem terms_any (a : Option Addr) (n c : Nat) (l : List ByteArray) (w : World) (hr : RdT w a l) (hl : l.length = n) (hz : ∀ s ∈ l, s.size ≤ 9223372036854775807) (hn : n ≤ 1000000) :
    Calls Tryz.prog 27 #[.slice a n c] w fun e w' => ∃ v, e = .returned v ∧ Hid (w'.ownsRow w.heap.size 59 2 v n (cellsW (l.map xterm)) ∧ Below w.heap.size w w') := by
  have HR : Hid (RdT w a l ∧ ∀ s ∈ l, s.size ≤ 9223372036854775807) := ⟨hr, hz⟩
  have HL : Hid (l.length = n) := hl
  obtain ⟨i59, hi, hz0, hz1, hz2⟩ := inf59'
  have HI : Hid (Tryz.prog.info? 59 = some i59 ∧ i59.zero = some (.agg #[.string ⟨#[]⟩, .bool false]) ∧ i59.size = 2 ∧ i59.bytes = 24) := ⟨hi, hz0, hz1, hz2⟩
  clear hr hl hz hi hz0 hz1 hz2
  go_enter Tryz.func27, Tryz.ntmps27
  go_wp2_with fail
  go_loopw [3, 4] (fun v y wr => ∃ k : Nat, k ≤ n ∧ y = .int .i64 k ∧ Hid (wr.ownsRow w.heap.size 59 2 v k (cellsW ((l.take k).map xterm)) ∧ Below w.heap.size w wr)) (fun _ y _ => n - (intOf y).toNat)
  case atStart => exact ⟨0, Nat.zero_le _, rfl, World.ownsRow_nil _ _ _ _, Below.refl _ _⟩
  case round =>
    obtain ⟨k, hk, rfl, HW⟩ := hrel
    by_cases hlt : k < n
    · have hlt' : (k : Int) < (n : Int) := by omega
      have hks : k < l.length := by rw [HL.out]; exact hlt
      obtain ⟨b, o, rfl, hb, hc⟩ := (HR.out.1.below HW.out.2).at k hks
      have hsz := HR.out.2 _ (List.getElem_mem hks)
      have HT : Hid (cellsW ((l.take (k + 1)).map xterm) = cellsW ((l.take k).map xterm) ++ cellsW [xterm l[k]]) := by
        show _ = _
        rw [List.take_add_one, List.getElem?_eq_getElem hks, Option.toList_some, List.map_append, cellsW_app]; rfl
      have HQ := Lib.hid (term_q l[k])
      have HNQ := Lib.hid (term_nq l[k])
      generalize l[k] = s at *
      by_cases h2 : 2 ≤ s.size
      · have h2' : (2 : Int) ≤ (s.size : Int) := by omega
        have h0 : 0 < s.size := by omega
        by_cases hq : ((s[0].toNat : Nat) : Int) = 34
        · rw [HQ.out h2 h0 hq] at HT
          clear HQ HNQ
          have HN1 := Lib.hid (one_termw wr (s.extract 1 (s.size - 1)) true)
          have HO := Lib.hid (HW.out.1.alloc (.cells #[.string (s.extract 1 (s.size - 1)), .bool true] 59))
          have HB : Hid (Below w.heap.size w (wr.alloc (.cells #[.string (s.extract 1 (s.size - 1)), .bool true] 59))) := HW.out.2.alloc HW.out.2.size _
          go_wp2_with (at_builtin; refine wpList_append_own _ rfl _ _ 51 rfl w.heap.size 59 i59 _ 2 24 Tryz.underlying51 HI.out.1 HI.out.2.1 HI.out.2.2.1 HI.out.2.2.2 rfl (by omega) _ k _ rfl HO.out ⟨wr.heap.size, 0, none⟩ 1 1 (cellsW [(s.extract 1 (s.size - 1), true)]) rfl rfl HN1.out (cellsW_one _) (by simp only [maxLen]; omega) (by omega) HB.out.size ?_; intro v' w' h5 h6 h7; have H5 := Lib.hid h5; have H6 := Lib.hid h6; clear h5 h6 h7)
          refine ⟨⟨k + 1, by omega, by go_num, ?_, HB.out.grown H6.out HB.out.size (fun g e => (HO.out.lt g e).1)⟩, by simp [intOf]; omega⟩
          rw [HT.out]; exact H5.out
        · have hq' : (((s[0].toNat : Nat) : Int) == 34) = false := by simpa using hq
          rw [HNQ.out (.inr ⟨h0, hq⟩)] at HT
          clear HQ HNQ hq
          have HN1 := Lib.hid (one_termw wr s false)
          have HO := Lib.hid (HW.out.1.alloc (.cells #[.string s, .bool false] 59))
          have HB : Hid (Below w.heap.size w (wr.alloc (.cells #[.string s, .bool false] 59))) := HW.out.2.alloc HW.out.2.size _
          go_wp2_with (at_builtin; refine wpList_append_own _ rfl _ _ 51 rfl w.heap.size 59 i59 _ 2 24 Tryz.underlying51 HI.out.1 HI.out.2.1 HI.out.2.2.1 HI.out.2.2.2 rfl (by omega) _ k _ rfl HO.out ⟨wr.heap.size, 0, none⟩ 1 1 (cellsW [(s, false)]) rfl rfl HN1.out (cellsW_one _) (by simp only [maxLen]; omega) (by omega) HB.out.size ?_; intro v' w' h5 h6 h7; have H5 := Lib.hid h5; have H6 := Lib.hid h6; clear h5 h6 h7)
          refine ⟨⟨k + 1, by omega, by go_num, ?_, HB.out.grown H6.out HB.out.size (fun g e => (HO.out.lt g e).1)⟩, by simp [intOf]; omega⟩
          rw [HT.out]; exact H5.out
      · have h2' : ¬ (2 : Int) ≤ (s.size : Int) := by omega
        rw [HNQ.out (.inl h2)] at HT
        clear HQ HNQ
        have HN1 := Lib.hid (one_termw wr s false)
        have HO := Lib.hid (HW.out.1.alloc (.cells #[.string s, .bool false] 59))
        have HB : Hid (Below w.heap.size w (wr.alloc (.cells #[.string s, .bool false] 59))) := HW.out.2.alloc HW.out.2.size _
        go_wp2_with (at_builtin; refine wpList_append_own _ rfl _ _ 51 rfl w.heap.size 59 i59 _ 2 24 Tryz.underlying51 HI.out.1 HI.out.2.1 HI.out.2.2.1 HI.out.2.2.2 rfl (by omega) _ k _ rfl HO.out ⟨wr.heap.size, 0, none⟩ 1 1 (cellsW [(s, false)]) rfl rfl HN1.out (cellsW_one _) (by simp only [maxLen]; omega) (by omega) HB.out.size ?_; intro v' w' h5 h6 h7; have H5 := Lib.hid h5; have H6 := Lib.hid h6; clear h5 h6 h7)
        refine ⟨⟨k + 1, by omega, by go_num, ?_, HB.out.grown H6.out HB.out.size (fun g e => (HO.out.lt g e).1)⟩, by simp [intOf]; omega⟩
        rw [HT.out]; exact H5.out
    · have hge : ¬ (k : Int) < (n : Int) := by omega
      have hkn : k = n := by omega
      subst hkn
      go_wp2_with fail
      go_ret
      have hx : l.take k = l := List.take_of_length_le (by rw [HL.out]; exact Nat.le_refl _)
      rw [hx] at HW
      exact ⟨_, rfl, HW⟩
end Go.Proofs.YtfkfjodfjgjbkaaGreatDoor
/- A digit out of a text of digits. -/
namespace Go.Proofs.YtfkfjodfjgjbkaaGreatDoor
open Go.ChangeShapes Go.WideShapes Go.ChangeAt Go.RowKit
set_option linter.unusedVariables false
def ud (v : Int) : Int := if v < 10 then 48 + v else 55 + v
theorem dig_sl (d : Int) (h0 : 0 ≤ d) (h1 : d < 16) (w : World) : (Instr.slice 9 (.string ⟨#[48, 49, 50, 51, 52, 53, 54, 55, 56, 57, 65, 66, 67, 68, 69, 70]⟩) (some (.int .u8 d)) (some (.int .u8 (d + 1))) none).run Tryz.prog w = .ok (.string (lb [ud d])) w := by
  have : d = 0 ∨ d = 1 ∨ d = 2 ∨ d = 3 ∨ d = 4 ∨ d = 5 ∨ d = 6 ∨ d = 7 ∨ d = 8 ∨ d = 9 ∨ d = 10 ∨ d = 11 ∨ d = 12 ∨ d = 13 ∨ d = 14 ∨ d = 15 := by omega
  rcases this with rfl | rfl | rfl | rfl | rfl | rfl | rfl | rfl | rfl | rfl | rfl | rfl | rfl | rfl | rfl | rfl <;> (clear h0 h1; show Sem.run _ _ _ = Result.ok _ _; kernel_rfl)
theorem dig_sa (d : Int) (h0 : 0 ≤ d) (h1 : d < 16) (w : World) : (Instr.sliceAt 9 (.string ⟨#[48, 49, 50, 51, 52, 53, 54, 55, 56, 57, 65, 66, 67, 68, 69, 70]⟩) (some (.int .u8 d)) (some (.int .u8 (d + 1))) none).run Tryz.prog w = .ok (.string (lb [ud d])) w := by
  have : d = 0 ∨ d = 1 ∨ d = 2 ∨ d = 3 ∨ d = 4 ∨ d = 5 ∨ d = 6 ∨ d = 7 ∨ d = 8 ∨ d = 9 ∨ d = 10 ∨ d = 11 ∨ d = 12 ∨ d = 13 ∨ d = 14 ∨ d = 15 := by omega
  rcases this with rfl | rfl | rfl | rfl | rfl | rfl | rfl | rfl | rfl | rfl | rfl | rfl | rfl | rfl | rfl | rfl <;> (clear h0 h1; show Sem.run _ _ _ = Result.ok _ _; kernel_rfl)
end Go.Proofs.YtfkfjodfjgjbkaaGreatDoor
/- Parse of a count and digits in pieces. -/
namespace Go.Proofs.YtfkfjodfjgjbkaaGreatDoor
open Go.ChangeShapes Go.WideShapes Go.ChangeAt Go.RowKit
set_option linter.unusedVariables false
set_option linter.unusedSimpArgs false

def upl (zs : List Int) : List Int := zs.flatMap fun z => [ud (z / 16), ud (z % 16)]
theorem upl_snoc (zs : List Int) (k : Nat) (h : k < zs.length) : upl (zs.take (k + 1)) = upl (zs.take k) ++ [ud (zs[k] / 16)] ++ [ud (zs[k] % 16)] := by
  unfold upl
  rw [List.take_add_one, List.getElem?_eq_getElem h, Option.toList_some, List.flatMap_append]
  simp
theorem upl_len (zs : List Int) : (upl zs).length = 2 * zs.length := by
  induction zs with
  | nil => rfl
  | cons c l ih => simp only [upl, List.flatMap_cons, List.length_append, List.length_cons, List.length_nil] at ih ⊢; omega
theorem ud_wv : ∀ v : Nat, v < 16 → wv (ud (v : Int)) = (v : Int) := by decide +kernel
theorem ud_by (v : Int) (h : 0 ≤ v ∧ v < 16) : 0 ≤ ud v ∧ ud v ≤ 255 := by unfold ud; split <;> omega
theorem upl_by (zs : List Int) (hz : ∀ z ∈ zs, 0 ≤ z ∧ z ≤ 255) : ∀ c ∈ upl zs, 0 ≤ c ∧ c ≤ 255 := by
  intro c hc
  simp only [upl, List.mem_flatMap] at hc
  obtain ⟨b, hb, hc⟩ := hc
  have := hz b hb
  simp only [List.mem_cons, List.not_mem_nil, or_false] at hc
  rcases hc with rfl | rfl
  · exact ud_by _ (by omega)
  · exact ud_by _ (by omega)
theorem up_hex (zs : List Int) (hz : ∀ z ∈ zs, 0 ≤ z ∧ z ≤ 255) : (∀ k, k < zs.length → okp (upl zs) k) ∧ prs (upl zs) zs.length = zs :=
  hex_prs ud (fun v hv => by
    obtain ⟨n, rfl⟩ := Int.eq_ofNat_of_zero_le hv.1
    exact ud_wv n (by omega)) zs hz
theorem rdw_new (w : World) (ws : List Wd) : RdW (w.alloc (.cells (cellsW ws).toArray 59)) (some ⟨w.heap.size, 0, none⟩) ws := by
  refine .inr ⟨w.heap.size, 0, rfl, by simp, fun i hi => ?_⟩
  obtain ⟨c1, c2⟩ := cellsW_at ws i hi
  have hb : BlkV (w.alloc (.cells (cellsW ws).toArray 59)) w.heap.size 59 (cellsW ws) := heap_alloc_new _ _
  have hl := cellsW_len ws
  have k1 := hb.cell (2 * i) (by omega)
  have k2 := hb.cell (2 * i + 1) (by omega)
  rw [List.getElem?_eq_getElem (by omega)] at c1 c2
  rw [Nat.zero_add]
  exact ⟨k1.trans c1, k2.trans c2⟩
theorem rdw_new1 (w : World) (o : Obj) (ws : List Wd) : RdW ((w.alloc o).alloc (.cells (cellsW ws).toArray 59)) (some ⟨w.heap.size + 1, 0, none⟩) ws := by
  have := rdw_new (w.alloc o) ws
  rw [show (w.alloc o).heap.size = w.heap.size + 1 by simp] at this
  exact this
/-- Data that were read, in a box of their own. -/
def GX (wa W : World) (D : Nat) (x : DA) (d : Dat) : Prop := DBlk W D x ∧ DRd W x d ∧ Below wa.heap.size wa W ∧ wa.heap.size ≤ D
theorem gx_new {wa w6 : World} {B : Nat} {x : DA} {d : Dat} (h : DOwn B w6 x d) (hb : Below wa.heap.size wa w6) : GX wa (w6.alloc (.cells #[.slice x.p1.a x.p1.n x.p1.c, .slice x.p2.a x.p2.n x.p2.c, .slice x.p3.a x.p3.n x.p3.c, .slice x.p4.a x.p4.n x.p4.c] 29)) w6.heap.size x d :=
  ⟨heap_alloc_new _ _, h.rd.below (new_below _ _), hb.trans ((new_below _ _).mono hb.size), hb.size⟩
theorem gx_set {wa w6 : World} {B D : Nat} {x : DA} {d : Dat} (h : DOwn B w6 x d) (hb : Below wa.heap.size wa w6) (hD : DBlk w6 D nilDA) (hDB : D < B) (hwD : wa.heap.size ≤ D) : GX wa ((((w6.setCell ⟨D, 0, none⟩ (.slice x.p1.a x.p1.n x.p1.c)).setCell ⟨D, 1, none⟩ (.slice x.p2.a x.p2.n x.p2.c)).setCell ⟨D, 2, none⟩ (.slice x.p3.a x.p3.n x.p3.c)).setCell ⟨D, 3, none⟩ (.slice x.p4.a x.p4.n x.p4.c)) D x d :=
  ⟨(ret4 hD hb hwD x).1, (h.ret4 (B' := B) hDB (Nat.le_refl _)).rd, (ret4 hD hb hwD x).2, hwD⟩
def NF (wa w6 : World) (B D : Nat) : Prop := Hid (DBlk w6 D nilDA ∧ D < B ∧ wa.heap.size ≤ D) ∧ w6.cell? ⟨D, 0, none⟩ = some (.slice none 0 0) ∧ w6.cell? ⟨D, 1, none⟩ = some (.slice none 0 0) ∧ w6.cell? ⟨D, 2, none⟩ = some (.slice none 0 0) ∧ w6.cell? ⟨D, 3, none⟩ = some (.slice none 0 0) ∧ w6.frozen? ⟨D, 0, none⟩ = false ∧ w6.frozen? ⟨D, 1, none⟩ = false ∧ w6.frozen? ⟨D, 2, none⟩ = false ∧ w6.frozen? ⟨D, 3, none⟩ = false
theorem nilfacts {W w6 wa : World} {D : Nat} (h : DBlk W D nilDA) (hb : Below W.heap.size W w6) (hwD : wa.heap.size ≤ D) : NF wa w6 W.heap.size D := by
  have k : DBlk w6 D nilDA := (hb.block _ h.lt).trans h
  exact ⟨⟨k, h.lt, hwD⟩, k.box.1, k.box.2.1, k.box.2.2.1, k.box.2.2.2.1, k.fz 0, k.fz 1, k.fz 2, k.fz 3⟩
theorem dblk_up {w : World} {D : Nat} {x : DA} (h : DBlk w D x) (o : Obj) : DBlk (w.alloc o) D x := ((new_below w o).block _ h.lt).trans h
theorem dblk_new1 (w : World) (o : Obj) : DBlk ((w.alloc o).alloc (.cells #[.slice none 0 0, .slice none 0 0, .slice none 0 0, .slice none 0 0] 29)) (w.heap.size + 1) nilDA := by
  have : DBlk ((w.alloc o).alloc (.cells #[.slice none 0 0, .slice none 0 0, .slice none 0 0, .slice none 0 0] 29)) (w.alloc o).heap.size nilDA := heap_alloc_new _ _
  rw [show (w.alloc o).heap.size = w.heap.size + 1 by simp] at this
  exact this
theorem dblk_new0 (w : World) : DBlk (w.alloc (.cells #[.slice none 0 0, .slice none 0 0, .slice none 0 0, .slice none 0 0] 29)) w.heap.size nilDA := heap_alloc_new _ _
theorem nil_nm (w : World) : Nm w none 0 [] := ⟨.inl rfl, rfl, by decide⟩
theorem nil_ck : nck [] = 0 := by decide
theorem gen_p1 (t : Nat) (d : Dat) (zs : List Int) (ps : List Wd) (c : Nat) (hps : nums ⟨(catL ps).toArray⟩ = upl zs) (hpl : ps.length + 2 ≤ c) (h63 : c ≤ 9223372036854775807) (W : World) (b : Nat) (hck : checkF t d = 0) (hB : Bd d) (hw : writeF t d = zs) (hl : zs.length ≤ 400) (hz : ∀ z ∈ zs, 0 ≤ z ∧ z ≤ 255) (hr : RdW W (some ⟨b, 0, none⟩) ((⟨#[92, 35]⟩, false) :: (xnw zs.length, false) :: ps)) :
    Calls Tryz.prog 26 #[.int .u16 (t : Int), .slice (some ⟨b, 0, none⟩) (ps.length + 2) c, .slice none 0 0] W (PrPost d W) := by
  obtain ⟨l1, l2⟩ := up_hex zs hz
  have hlen : (catL ps).length = 2 * zs.length := by
    have : (nums ⟨(catL ps).toArray⟩).length = (upl zs).length := by rw [hps]
    rw [nums_len, upl_len] at this
    simpa [ByteArray.size] using this
  have h10 := xdec_len10 zs.length (by omega)
  refine parse_ok t _ none 0 0 [] d W (nil_nm W) nil_ck (check_parts hck).1 hB hck (fun W1 hW1 => ?_)
  refine readH_ok t b 0 (xnw zs.length, false) ps c none 0 0 d W1 (hr.below hW1) hpl h63 (fun W2 hW2 => ?_)
  obtain ⟨b', o', e', _, _, _, hr2⟩ := ((hr.below hW1).below hW2).head
  injection e' with e'
  injection e' with e1 e2
  subst e1; subst e2
  exact hashed_ok t b (0 + 2) (xnw zs.length) false ps (c - 1) W2 hr2 (by omega) (by omega) zs.length (by rw [← nums_len, xnw_nums]; omega) (by rw [xnw_nums]; exact xnum_dec _ _ (by have : (2 : Nat) ^ 32 = 4294967296 := (by decide); omega)) zs.length hlen (by omega) (by rw [hps]; exact l1) d rfl (by rw [hps, l2]; exact readF_write t d zs hck hw (by omega))
theorem gen_p2 (t : Nat) (d : Dat) (zs : List Int) (ps : List Wd) (c : Nat) (hps : nums ⟨(catL ps).toArray⟩ = upl zs) (hpl : ps.length + 2 ≤ c) (h63 : c ≤ 9223372036854775807) (W : World) (b : Nat) (hck : checkF t d = 0) (hl : zs.length ≤ 400) (hz : ∀ z ∈ zs, 0 ≤ z ∧ z ≤ 255) (hr : RdW W (some ⟨b, 0, none⟩) ((⟨#[92, 35]⟩, false) :: (xnw (zs.length + 1), false) :: ps)) :
    Calls Tryz.prog 26 #[.int .u16 (t : Int), .slice (some ⟨b, 0, none⟩) (ps.length + 2) c, .slice none 0 0] W fun e w' => e = .returned (.tuple #[.agg #[.slice none 0 0, .slice none 0 0, .slice none 0 0, .slice none 0 0], .int .i64 7]) ∧ Hid (Below W.heap.size W w') := by
  obtain ⟨l1, l2⟩ := up_hex zs hz
  have hlen : (catL ps).length = 2 * zs.length := by
    have : (nums ⟨(catL ps).toArray⟩).length = (upl zs).length := by rw [hps]
    rw [nums_len, upl_len] at this
    simpa [ByteArray.size] using this
  have h10 := xdec_len10 (zs.length + 1) (by omega)
  refine parse_no t _ none 0 0 [] W (nil_nm W) nil_ck (check_parts hck).1 (fun W1 hW1 => ?_)
  refine readH_no t b 0 (xnw (zs.length + 1), false) ps c none 0 0 W1 (hr.below hW1) hpl h63 (fun W2 hW2 => ?_)
  obtain ⟨b', o', e', _, _, _, hr2⟩ := ((hr.below hW1).below hW2).head
  injection e' with e'
  injection e' with e1 e2
  subst e1; subst e2
  exact (hashed_no t b (0 + 2) (xnw (zs.length + 1)) false ps (c - 1) W2 hr2 (by omega) (by omega) (zs.length + 1) (by rw [← nums_len, xnw_nums]; omega) (by rw [xnw_nums]; exact xnum_dec _ _ (by have : (2 : Nat) ^ 32 = 4294967296 := (by decide); omega)) zs.length hlen (by omega) (by rw [hps]; exact l1) (by omega)).mono fun e w' h => ⟨nilDA, h.1, h.2⟩
theorem cat_cut (q : ByteArray) (r : Nat) : nums ⟨(catL [(q.extract 0 r, false), (q.extract r q.size, false)]).toArray⟩ = nums q := by
  have e : nums ⟨(catL [(q.extract 0 r, false), (q.extract r q.size, false)]).toArray⟩ = nums (q.extract 0 r) ++ nums (q.extract r q.size) := by
    simp [catL, nums]
  rw [e, nums_extract2, nums_extract, List.drop_zero, List.take_append_drop]
theorem cat_one (q : ByteArray) : nums ⟨(catL [(q, false)]).toArray⟩ = nums q := by simp [catL]
end Go.Proofs.YtfkfjodfjgjbkaaGreatDoor
/- The chapter's examples: what each call answers. -/
namespace Go.Proofs.YtfkfjodfjgjbkaaGreatDoor
open Go.ChangeShapes Go.WideShapes Go.ChangeAt Go.RowKit
set_option linter.unusedVariables false
set_option linter.unusedSimpArgs false

abbrev rawD (zs : List Int) : Dat := ⟨[], [], [], zs⟩
abbrev txtD (ts : List ByteArray) : Dat := ⟨[], [], ts, []⟩
theorem k1_is : checkF 1 (rawD [192, 0, 2, 1]) = 0 ∧ textR 1 (rawD [192, 0, 2, 1]) = ⟨#[49, 57, 50, 46, 48, 46, 50, 46, 49]⟩ ∧ (wordsR 1 (rawD [192, 0, 2, 1])).length ≤ 100000 := by decide +kernel
theorem k2_is : checkF 16 (txtD [⟨#[97, 34, 98]⟩]) = 0 ∧ textR 16 (txtD [⟨#[97, 34, 98]⟩]) = ⟨#[34, 97, 92, 34, 98, 34]⟩ ∧ (wordsR 16 (txtD [⟨#[97, 34, 98]⟩])).length ≤ 100000 := by decide +kernel
theorem k3_is : checkF 99 (rawD [1, 255]) = 0 ∧ textR 99 (rawD [1, 255]) = ⟨#[92, 35, 32, 50, 32, 48, 49, 102, 102]⟩ ∧ (wordsR 99 (rawD [1, 255])).length ≤ 100000 := by decide +kernel
theorem k4_is : checkF 99 (rawD []) = 0 ∧ textR 99 (rawD []) = ⟨#[92, 35, 32, 48]⟩ ∧ (wordsR 99 (rawD [])).length ≤ 100000 := by decide +kernel
theorem raw_bd (zs : List Int) (h : zs.length ≤ 1000) : Bd (rawD zs) := ⟨by simp, by simp, by simp, by simp [tsum], by show zs.length ≤ _; omega⟩
theorem txt_bd : Bd (txtD [⟨#[97, 34, 98]⟩]) := ⟨by decide, by simp, by decide, by decide +kernel, by decide⟩
/-- The text of data that are bytes alone. -/
theorem text_raw (t : Nat) (zs : List Int) (n : Nat) (out : ByteArray) (hn : zs.length = n) (hm : n ≤ 1000) (hb : ∀ z ∈ zs, 0 ≤ z ∧ z ≤ 255) (h : checkF t (rawD zs) = 0 ∧ textR t (rawD zs) = out ∧ (wordsR t (rawD zs)).length ≤ 100000) (w : World) (hL : LayT w) :
    Calls Tryz.prog 13 #[.int .u16 (t : Int), .agg #[.slice none 0 0, .slice none 0 0, .slice none 0 0, .slice (some ⟨w.heap.size, 0, none⟩) n n]] (w.alloc (.cells (zs.map (Value.int .u8)).toArray 5)) fun e w' => e = .returned (.tuple #[.string out, .int .i64 0]) ∧ Hid (Below w.heap.size w w') := by
  have hb0 := new_below w (.cells (zs.map (Value.int .u8)).toArray 5)
  have hd : DRd (w.alloc (.cells (zs.map (Value.int .u8)).toArray 5)) ⟨⟨none, 0, 0⟩, ⟨none, 0, 0⟩, ⟨none, 0, 0⟩, ⟨some ⟨w.heap.size, 0, none⟩, n, n⟩⟩ (rawD zs) := ⟨nil_nrd _, nil_urd _, nil_trd _, new_b w zs n hn hm hb⟩
  have := text13_any t _ (rawD zs) _ hd (raw_bd zs (by omega)) (hL.below hb0) h.2.2
  rw [h.1, h.2.1] at this
  exact this.mono fun e w' h => ⟨h.1, hb0.trans (h.2.out.mono hb0.size)⟩
theorem text_txt (w : World) (hL : LayT w) :
    Calls Tryz.prog 13 #[.int .u16 16, .agg #[.slice none 0 0, .slice none 0 0, .slice (some ⟨w.heap.size, 0, none⟩) 1 1, .slice none 0 0]] (w.alloc (.cells #[.string ⟨#[97, 34, 98]⟩] 9)) fun e w' => e = .returned (.tuple #[.string ⟨#[34, 97, 92, 34, 98, 34]⟩, .int .i64 0]) ∧ Hid (Below w.heap.size w w') := by
  have hb0 := new_below w (.cells #[.string ⟨#[97, 34, 98]⟩] 9)
  have hd : DRd (w.alloc (.cells #[.string ⟨#[97, 34, 98]⟩] 9)) ⟨⟨none, 0, 0⟩, ⟨none, 0, 0⟩, ⟨some ⟨w.heap.size, 0, none⟩, 1, 1⟩, ⟨none, 0, 0⟩⟩ (txtD [⟨#[97, 34, 98]⟩]) := ⟨nil_nrd _, nil_urd _, new_t w [⟨#[97, 34, 98]⟩] 1 rfl (by omega) (by decide), nil_brd _⟩
  have := text13_any 16 _ (txtD [⟨#[97, 34, 98]⟩]) _ hd txt_bd (hL.below hb0) k2_is.2.2
  rw [k2_is.1, k2_is.2.1] at this
  exact this.mono fun e w' h => ⟨h.1, hb0.trans (h.2.out.mono hb0.size)⟩
theorem text_nil (w : World) (hL : LayT w) :
    Calls Tryz.prog 13 #[.int .u16 99, .agg #[.slice none 0 0, .slice none 0 0, .slice none 0 0, .slice none 0 0]] w fun e w' => e = .returned (.tuple #[.string ⟨#[92, 35, 32, 48]⟩, .int .i64 0]) ∧ Hid (Below w.heap.size w w') := by
  have hd : DRd w ⟨⟨none, 0, 0⟩, ⟨none, 0, 0⟩, ⟨none, 0, 0⟩, ⟨none, 0, 0⟩⟩ (rawD []) := ⟨nil_nrd _, nil_urd _, nil_trd _, nil_brd _⟩
  have := text13_any 99 _ (rawD []) _ hd (raw_bd [] (by decide)) hL k4_is.2.2
  rw [k4_is.1, k4_is.2.1] at this
  exact this
/-- Refused. -/
def NoPost (w : World) (e : Ending) (w' : World) : Prop := e = .returned (.tuple #[.agg #[.slice none 0 0, .slice none 0 0, .slice none 0 0, .slice none 0 0], .int .i64 7]) ∧ Hid (Below w.heap.size w w')
abbrev bads : List ByteArray := [⟨#[49, 46, 50, 46, 51]⟩, ⟨#[48, 49, 46, 50, 46, 51, 46, 52]⟩, ⟨#[]⟩, ⟨#[49, 46, 50, 46, 51, 46, 50, 53, 54]⟩]
theorem bads_are : ∀ s ∈ bads, xpaddr (nums s) = none ∧ s.size ≤ 1000000 ∧ s ≠ ⟨#[92, 35]⟩ := by decide +kernel
theorem may_1 : mayT 1 = true ∧ mayT 99 = true ∧ mayT 16 = true := by decide
theorem parse_bad (s : ByteArray) (hs : xpaddr (nums s) = none ∧ s.size ≤ 1000000 ∧ s ≠ ⟨#[92, 35]⟩) (W : World) (b : Nat) (hw : RdW W (some ⟨b, 0, none⟩) [(s, false)]) (hE : LayE W) :
    Calls Tryz.prog 26 #[.int .u16 1, .slice (some ⟨b, 0, none⟩) 1 1, .slice none 0 0] W (NoPost W) :=
  parse_no 1 _ none 0 0 [] W (nil_nm W) nil_ck may_1.1 (fun W1 hW1 =>
    read_no 1 (some ⟨b, 0, none⟩) [(s, false)] 1 none 0 0 W1 (by simpa using hs.2.2) (hw.below hW1) (fun w0 h0 =>
      readA_no w0 _ s 1 none 0 0 hs.2.1 hs.1 ((hE.below hW1).below h0) ((hw.below hW1).below h0) (by omega) (by omega)))
theorem parse_99 (s : ByteArray) (hs : s ≠ ⟨#[92, 35]⟩) (W : World) (b : Nat) (hw : RdW W (some ⟨b, 0, none⟩) [(s, false)]) :
    Calls Tryz.prog 26 #[.int .u16 99, .slice (some ⟨b, 0, none⟩) 1 1, .slice none 0 0] W (NoPost W) :=
  parse_no 99 _ none 0 0 [] W (nil_nm W) nil_ck may_1.2.1 (fun W1 hW1 =>
    read_no 99 (some ⟨b, 0, none⟩) [(s, false)] 1 none 0 0 W1 (by simpa using hs) (hw.below hW1) (fun w0 h0 => read99_no w0 _ _ 1 none 0 0))
theorem parse_txt0 (W : World) (hE : LayE W) :
    Calls Tryz.prog 26 #[.int .u16 16, .slice none 0 0, .slice none 0 0] W (NoPost W) :=
  parse_no 16 _ none 0 0 [] W (nil_nm W) nil_ck may_1.2.2 (fun W1 hW1 =>
    read_no 16 none [] 0 none 0 0 W1 (by simp) (.inl rfl) (fun w0 h0 => readTXT_no w0 _ 0 none 0 0 ((hE.below hW1).below h0)))
abbrev hxW : List Wd := [(⟨#[48, 49, 48, 50]⟩, false), (⟨#[48, 51, 48, 52]⟩, false)]
theorem hx_is : nums ⟨(catL hxW).toArray⟩ = upl [1, 2, 3, 4] ∧ checkF 1 (rawD [1, 2, 3, 4]) = 0 ∧ writeF 1 (rawD [1, 2, 3, 4]) = [1, 2, 3, 4] ∧ xnw 4 = ⟨#[52]⟩ ∧ xnw 5 = ⟨#[53]⟩ := by decide +kernel
theorem parse_h4 (W : World) (b : Nat) (hr : RdW W (some ⟨b, 0, none⟩) ((⟨#[92, 35]⟩, false) :: (⟨#[52]⟩, false) :: hxW)) :
    Calls Tryz.prog 26 #[.int .u16 1, .slice (some ⟨b, 0, none⟩) 4 4, .slice none 0 0] W (PrPost (rawD [1, 2, 3, 4]) W) :=
  gen_p1 1 (rawD [1, 2, 3, 4]) [1, 2, 3, 4] hxW 4 hx_is.1 (by decide) (by omega) W b hx_is.2.1 (raw_bd _ (by decide)) hx_is.2.2.1 (by decide) (by decide) (by rw [show ([1, 2, 3, 4] : List Int).length = 4 from rfl, hx_is.2.2.2.1]; exact hr)
theorem parse_h5 (W : World) (b : Nat) (hr : RdW W (some ⟨b, 0, none⟩) ((⟨#[92, 35]⟩, false) :: (⟨#[53]⟩, false) :: hxW)) :
    Calls Tryz.prog 26 #[.int .u16 1, .slice (some ⟨b, 0, none⟩) 4 4, .slice none 0 0] W (NoPost W) :=
  gen_p2 1 (rawD [1, 2, 3, 4]) [1, 2, 3, 4] hxW 4 hx_is.1 (by decide) (by omega) W b hx_is.2.1 (by decide) (by decide) (by rw [show ([1, 2, 3, 4] : List Int).length + 1 = 5 from rfl, hx_is.2.2.2.2]; exact hr)
theorem st_is : xstrR (nums ⟨#[92, 48, 54, 53, 92, 34]⟩) = (⟨#[65, 34]⟩, 0) ∧ (xstrR (nums ⟨#[92, 50, 53]⟩)).2 = 7 ∧ (xstrR (nums ⟨#[92, 50, 53, 54]⟩)).2 = 7 := by decide +kernel
abbrev z16 : List Int := [0, 0, 0, 0, 0, 0, 0, 0, 0, 0, 0, 0, 0, 0, 0, 0]
abbrev m16 : List Int := [0, 1, 0, 0, 0, 0, 0, 0, 0, 0, 0, 0, 0, 0, 0, 2]
theorem ad_is : xpaddr (nums ⟨#[58, 58]⟩) = some z16 ∧ xpaddr (nums ⟨#[49, 58, 58, 50]⟩) = some m16 ∧ xpaddr (nums ⟨#[49, 58, 50]⟩) = none ∧ xpaddr (nums ⟨#[58, 58, 49, 58, 58]⟩) = none := by decide +kernel
theorem paddr_yes (s : ByteArray) (zs : List Int) (hs : s.size ≤ 100) (h : xpaddr (nums s) = some zs) (w : World) (hE : LayE w) :
    Calls Tryz.prog 32 #[.string s] w fun e w' => ∃ ao k, e = .returned (.tuple #[.slice ao zs.length k, .int .i64 0]) ∧ Hid (Rd w' ao zs ∧ Below w.heap.size w w') := by
  have K := paddr_any s w (by omega) hE
  rw [h] at K
  refine K.mono ?_
  rintro e w5 ⟨hP, -⟩
  obtain ⟨v, ys, rfl, H5⟩ := hP zs rfl
  obtain ⟨ao, rfl, hoa⟩ := H5.out.1.addr
  have hr2 := hoa.rdTake zs.length
  rw [H5.out.2.1] at hr2
  exact ⟨ao, _, rfl, hr2, H5.out.2.2⟩
theorem paddr_nope (s : ByteArray) (hs : s.size ≤ 100) (h : xpaddr (nums s) = none) (w : World) (hE : LayE w) :
    Calls Tryz.prog 32 #[.string s] w fun e w' => e = .returned (.tuple #[.slice none 0 0, .int .i64 7]) ∧ Hid (Below w.heap.size w w') := by
  have K := paddr_any s w (by omega) hE
  rw [h] at K
  exact K.mono fun e w' hP => hP.2 rfl
theorem str_call (s : ByteArray) (hs : s.size ≤ 100) (w : World) (hE : LayE w) :
    Calls Tryz.prog 31 #[.string s] w fun e w' => e = .returned (.tuple #[.string (xstrR (nums s)).1, .int .i64 (xstrR (nums s)).2]) ∧ Hid (Below w.heap.size w w') := string_any s w (by omega) hE
theorem rd_at {w : World} {a : Option Addr} {zs : List Int} (h : Rd w a zs) (k : Nat) (hk : k < zs.length) : ∃ b o, a = some ⟨b, o, none⟩ ∧ ∀ i, i < zs.length → w.cell? ⟨b, o + i, none⟩ = some (.int .u8 (zs.getD i 0)) := by
  rcases h.1 with h0 | ⟨b, o, h1, h2, h3⟩
  · rw [h0] at hk; simp at hk
  · exact ⟨b, o, h1, fun i hi => h3 i hi⟩
end Go.Proofs.YtfkfjodfjgjbkaaGreatDoor
/- The chapter's examples: the statement's function. -/
namespace Go.Proofs.YtfkfjodfjgjbkaaGreatDoor
open Go.ChangeShapes Go.WideShapes Go.ChangeAt Go.RowKit
set_option linter.unusedVariables false
set_option linter.unusedSimpArgs false

theorem mk16 (w : World) : (Instr.makeSlice 27 (.int .i64 16) (.int .i64 16)).run Tryz.prog w = .ok (.slice (some ⟨w.heap.size, 0, none⟩) 16 16) (w.alloc (.cells #[.int .u8 0, .int .u8 0, .int .u8 0, .int .u8 0, .int .u8 0, .int .u8 0, .int .u8 0, .int .u8 0, .int .u8 0, .int .u8 0, .int .u8 0, .int .u8 0, .int .u8 0, .int .u8 0, .int .u8 0, .int .u8 0] 5)) := by
  obtain ⟨i, hi, hz0, hz1, hz2⟩ := info_parts Tryz.info5
  have hrun := run_make (P := Tryz.prog) w 27 5 i _ Tryz.underlying27 hi hz0 .i64 .i64 ((16 : Nat) : Int) ((16 : Nat) : Int) (by omega) (by omega) (by rw [hz2]; omega) (by omega)
  rw [hz1] at hrun
  simp only [Int.toNat_natCast, made_eq] at hrun
  exact hrun
set_option maxRecDepth 100000 in
set_option maxHeartbeats 8000000 in
theorem knownL (w : World) (hL : LayT w) (hE : LayE w) :
    Calls Tryz.prog 7 #[] w fun e w' => e = .returned (.bool true) ∧ Hid (Below w.heap.size w w') := by
  have H : Hid (∀ W, Below w.heap.size w W → LayT W ∧ LayE W) := fun W hW => ⟨hL.below hW, hE.below hW⟩
  have B0 : Hid (Below w.heap.size w w) := Below.refl _ _
  clear hL hE
  go_enter Tryz.func7, Tryz.ntmps7
  have K0 := Lib.hid (text_raw 1 [192, 0, 2, 1] 4 _ rfl (by omega) (by decide) k1_is w (H.out _ B0.out).1)
  go_wp2_with fail
  refine K0.out.mono ?_
  rintro e w1 ⟨rfl, Q0⟩
  have B1 : Hid (Below w.heap.size w w1) := B0.out.trans (Q0.out.mono B0.out.size)
  clear K0 B0 Q0
  have K1 := Lib.hid (text_txt w1 (H.out _ B1.out).1)
  go_wp2_with fail
  refine K1.out.mono ?_
  rintro e w2 ⟨rfl, Q1⟩
  have B2 : Hid (Below w.heap.size w w2) := B1.out.trans (Q1.out.mono B1.out.size)
  clear K1 B1 Q1
  have K2 := Lib.hid (text_raw 99 [1, 255] 2 _ rfl (by omega) (by decide) k3_is w2 (H.out _ B2.out).1)
  go_wp2_with fail
  refine K2.out.mono ?_
  rintro e w3 ⟨rfl, Q2⟩
  have B3 : Hid (Below w.heap.size w w3) := B2.out.trans (Q2.out.mono B2.out.size)
  clear K2 B2 Q2
  have K3 := Lib.hid (text_nil w3 (H.out _ B3.out).1)
  go_wp2_with fail
  refine K3.out.mono ?_
  rintro e w4 ⟨rfl, Q3⟩
  have B4 : Hid (Below w.heap.size w w4) := B3.out.trans (Q3.out.mono B3.out.size)
  clear K3 B3 Q3
  have hsz4 : (w4.alloc (.cells #[.string ⟨#[49, 46, 50, 46, 51]⟩, .string ⟨#[48, 49, 46, 50, 46, 51, 46, 52]⟩, .string ⟨#[]⟩, .string ⟨#[49, 46, 50, 46, 51, 46, 50, 53, 54]⟩] 9)).heap.size = w4.heap.size + 1 := by simp
  have C5 : Hid (∀ W, Below (w4.heap.size + 1) (w4.alloc (.cells #[.string ⟨#[49, 46, 50, 46, 51]⟩, .string ⟨#[48, 49, 46, 50, 46, 51, 46, 52]⟩, .string ⟨#[]⟩, .string ⟨#[49, 46, 50, 46, 51, 46, 50, 53, 54]⟩] 9)) W → ∀ k, k < 4 → ∃ s, W.cell? ⟨w4.heap.size, k, none⟩ = some (.string s) ∧ Hid (s ∈ bads)) := fun W hW k hk => by
    have e : W.heap[w4.heap.size]? = _ := (hW.block _ (Nat.lt_succ_self _)).trans (heap_alloc_new w4 _)
    have : k = 0 ∨ k = 1 ∨ k = 2 ∨ k = 3 := by omega
    rcases this with rfl | rfl | rfl | rfl <;> refine ⟨_, by unfold World.cell?; rw [e]; rfl, ?_⟩ <;> (show _ ∈ _; simp)
  have B5 : Hid (Below w.heap.size w (w4.alloc (.cells #[.string ⟨#[49, 46, 50, 46, 51]⟩, .string ⟨#[48, 49, 46, 50, 46, 51, 46, 52]⟩, .string ⟨#[]⟩, .string ⟨#[49, 46, 50, 46, 51, 46, 50, 53, 54]⟩] 9))) := B4.out.trans ((new_below _ _).mono B4.out.size)
  go_wp2_with fail
  go_loopw [93] (fun y wr => ∃ k : Nat, k ≤ 4 ∧ y = .int .i64 k ∧ Hid (Below w.heap.size w wr ∧ Below (w4.heap.size + 1) (w4.alloc (.cells #[.string ⟨#[49, 46, 50, 46, 51]⟩, .string ⟨#[48, 49, 46, 50, 46, 51, 46, 52]⟩, .string ⟨#[]⟩, .string ⟨#[49, 46, 50, 46, 51, 46, 50, 53, 54]⟩] 9)) wr)) (fun y _ => 4 - (intOf y).toNat)
  case atStart => exact ⟨0, by omega, rfl, B5.out, Below.refl _ _⟩
  case round =>
    obtain ⟨k, hk, rfl, HW⟩ := hrel
    by_cases hlt : k < 4
    · have hlt' : (k : Int) < 4 := by omega
      obtain ⟨s, hc, hs⟩ := C5.out wr HW.out.2 k hlt
      have KP : Hid (∀ W b, Below w.heap.size w W → RdW W (some ⟨b, 0, none⟩) [(s, false)] → Calls Tryz.prog 26 #[.int .u16 1, .slice (some ⟨b, 0, none⟩) 1 1, .slice none 0 0] W (NoPost W)) := fun W b hW hr => parse_bad s (bads_are s hs.out) W b hr (H.out _ hW).2
      have BW : Hid (Below w.heap.size w (wr.alloc (.cells #[.string s, .bool false] 59))) := HW.out.1.trans ((new_below _ _).mono HW.out.1.size)
      have BV : Hid (Below (w4.heap.size + 1) (w4.alloc (.cells #[.string ⟨#[49, 46, 50, 46, 51]⟩, .string ⟨#[48, 49, 46, 50, 46, 51, 46, 52]⟩, .string ⟨#[]⟩, .string ⟨#[49, 46, 50, 46, 51, 46, 50, 53, 54]⟩] 9)) (wr.alloc (.cells #[.string s, .bool false] 59)) ∧ w4.heap.size + 1 ≤ wr.heap.size) := by
        have hz : w4.heap.size + 1 ≤ wr.heap.size := by have := HW.out.2.size; rw [hsz4] at this; exact this
        exact ⟨HW.out.2.trans ((new_below _ _).mono hz), hz⟩
      go_wp2_with fail
      refine (KP.out _ _ BW.out (one_rdw wr s false)).mono ?_
      rintro e wv ⟨rfl, HV⟩
      have BX : Hid (Below w.heap.size w wv ∧ Below (w4.heap.size + 1) (w4.alloc (.cells #[.string ⟨#[49, 46, 50, 46, 51]⟩, .string ⟨#[48, 49, 46, 50, 46, 51, 46, 52]⟩, .string ⟨#[]⟩, .string ⟨#[49, 46, 50, 46, 51, 46, 50, 53, 54]⟩] 9)) wv ∧ w4.heap.size + 1 ≤ wv.heap.size ∧ w.heap.size ≤ wv.heap.size) := by
        have hz := HV.out.size
        have hz2 : (wr.alloc (.cells #[.string s, .bool false] 59)).heap.size = wr.heap.size + 1 := by simp
        have hz3 := BW.out.size
        exact ⟨BW.out.trans (HV.out.mono (by omega)), BV.out.1.trans (HV.out.mono (by have := BV.out.2; omega)), by have := BV.out.2; omega, by omega⟩
      clear BW BV KP HV HW hc
      go_wp2_with fail
      exact ⟨⟨k + 1, by omega, by go_num, BX.out.1.trans ((new_below _ _).mono BX.out.2.2.2), BX.out.2.1.trans ((new_below _ _).mono BX.out.2.2.1)⟩, by simp [intOf]; omega⟩
    · have hk4 : k = 4 := by omega
      subst hk4
      have B5' : Hid (Below w.heap.size w wr) := HW.out.1
      clear HW C5 B5 hsz4 B4
      have KA : Hid (Calls Tryz.prog 26 #[.int .u16 1, .slice (some ⟨wr.heap.size, 0, none⟩) 4 4, .slice none 0 0] (wr.alloc (.cells #[.string ⟨#[92, 35]⟩, .bool false, .string ⟨#[52]⟩, .bool false, .string ⟨#[48, 49, 48, 50]⟩, .bool false, .string ⟨#[48, 51, 48, 52]⟩, .bool false] 59)) (PrPost (rawD [1, 2, 3, 4]) (wr.alloc (.cells #[.string ⟨#[92, 35]⟩, .bool false, .string ⟨#[52]⟩, .bool false, .string ⟨#[48, 49, 48, 50]⟩, .bool false, .string ⟨#[48, 51, 48, 52]⟩, .bool false] 59)))) := parse_h4 _ _ (rdw_new wr ((⟨#[92, 35]⟩, false) :: (⟨#[52]⟩, false) :: hxW))
      have BA : Hid (Below w.heap.size w (wr.alloc (.cells #[.string ⟨#[92, 35]⟩, .bool false, .string ⟨#[52]⟩, .bool false, .string ⟨#[48, 49, 48, 50]⟩, .bool false, .string ⟨#[48, 51, 48, 52]⟩, .bool false] 59))) := B5'.out.trans ((new_below _ _).mono B5'.out.size)
      go_wp2_with fail
      refine KA.out.mono ?_
      rintro e w5 ⟨⟨⟨a1, n1, k1⟩, ⟨a2, n2, k2⟩, ⟨a3, n3, k3⟩, ⟨a4, n4, k4⟩⟩, rfl, H5⟩
      simp only at *
      have B5 : Hid (Below w.heap.size w w5) := BA.out.trans (H5.out.2.mono BA.out.size)
      have hn4 : 4 = n4 := H5.out.1.rd.h4.len
      subst hn4
      have R5 : Hid (Rd w5 a4 [1, 2, 3, 4]) := H5.out.1.rd.h4.rd
      clear KA BA H5 B5'
      have N5 : Hid (Below w5.heap.size w5 ((w5.alloc (.cells #[.slice a1 n1 k1, .slice a2 n2 k2, .slice a3 n3 k3, .slice a4 4 k4] 29)).alloc (.cells #[.string ⟨#[92, 35]⟩, .bool false, .string ⟨#[53]⟩, .bool false, .string ⟨#[48, 49, 48, 50]⟩, .bool false, .string ⟨#[48, 51, 48, 52]⟩, .bool false] 59))) := (new_below _ _).trans ((new_below _ _).mono (new_below _ _).size)
      have KB : Hid (Calls Tryz.prog 26 #[.int .u16 1, .slice (some ⟨w5.heap.size + 1, 0, none⟩) 4 4, .slice none 0 0] ((w5.alloc (.cells #[.slice a1 n1 k1, .slice a2 n2 k2, .slice a3 n3 k3, .slice a4 4 k4] 29)).alloc (.cells #[.string ⟨#[92, 35]⟩, .bool false, .string ⟨#[53]⟩, .bool false, .string ⟨#[48, 49, 48, 50]⟩, .bool false, .string ⟨#[48, 51, 48, 52]⟩, .bool false] 59)) (NoPost ((w5.alloc (.cells #[.slice a1 n1 k1, .slice a2 n2 k2, .slice a3 n3 k3, .slice a4 4 k4] 29)).alloc (.cells #[.string ⟨#[92, 35]⟩, .bool false, .string ⟨#[53]⟩, .bool false, .string ⟨#[48, 49, 48, 50]⟩, .bool false, .string ⟨#[48, 51, 48, 52]⟩, .bool false] 59)))) := parse_h5 _ _ (rdw_new1 w5 _ ((⟨#[92, 35]⟩, false) :: (⟨#[53]⟩, false) :: hxW))
      have X5 : Hid (DBlk ((w5.alloc (.cells #[.slice a1 n1 k1, .slice a2 n2 k2, .slice a3 n3 k3, .slice a4 4 k4] 29)).alloc (.cells #[.string ⟨#[92, 35]⟩, .bool false, .string ⟨#[53]⟩, .bool false, .string ⟨#[48, 49, 48, 50]⟩, .bool false, .string ⟨#[48, 51, 48, 52]⟩, .bool false] 59)) w5.heap.size ⟨⟨a1, n1, k1⟩, ⟨a2, n2, k2⟩, ⟨a3, n3, k3⟩, ⟨a4, 4, k4⟩⟩) := by
        have h : DBlk (w5.alloc (.cells #[.slice a1 n1 k1, .slice a2 n2 k2, .slice a3 n3 k3, .slice a4 4 k4] 29)) w5.heap.size ⟨⟨a1, n1, k1⟩, ⟨a2, n2, k2⟩, ⟨a3, n3, k3⟩, ⟨a4, 4, k4⟩⟩ := heap_alloc_new _ _
        exact dblk_up h _
      go_wp2_with fail
      refine KB.out.mono ?_
      rintro e w6 ⟨rfl, H6⟩
      have M6 : Hid (Below w5.heap.size w5 w6) := N5.out.trans (H6.out.mono N5.out.size)
      have X6 : Hid (DBlk w6 w5.heap.size ⟨⟨a1, n1, k1⟩, ⟨a2, n2, k2⟩, ⟨a3, n3, k3⟩, ⟨a4, 4, k4⟩⟩) := (H6.out.block _ X5.out.lt).trans X5.out
      clear KB N5 H6 X5
      have N6 : Hid (Below w6.heap.size w6 ((w6.alloc (.cells #[.slice none 0 0, .slice none 0 0, .slice none 0 0, .slice none 0 0] 29)).alloc (.cells #[.string ⟨#[49, 46, 50, 46, 51, 46, 52]⟩, .bool false] 59))) := (new_below _ _).trans ((new_below _ _).mono (new_below _ _).size)
      have KC : Hid (Calls Tryz.prog 26 #[.int .u16 99, .slice (some ⟨w6.heap.size + 1, 0, none⟩) 1 1, .slice none 0 0] ((w6.alloc (.cells #[.slice none 0 0, .slice none 0 0, .slice none 0 0, .slice none 0 0] 29)).alloc (.cells #[.string ⟨#[49, 46, 50, 46, 51, 46, 52]⟩, .bool false] 59)) (NoPost ((w6.alloc (.cells #[.slice none 0 0, .slice none 0 0, .slice none 0 0, .slice none 0 0] 29)).alloc (.cells #[.string ⟨#[49, 46, 50, 46, 51, 46, 52]⟩, .bool false] 59)))) := parse_99 _ (by decide +kernel) _ _ (rdw_new1 w6 _ [(⟨#[49, 46, 50, 46, 51, 46, 52]⟩, false)])
      go_wp2_with fail
      refine KC.out.mono ?_
      rintro e w7 ⟨rfl, H7⟩
      have M7' : Hid (Below w6.heap.size w6 w7) := N6.out.trans (H7.out.mono N6.out.size)
      have M7 : Hid (Below w5.heap.size w5 w7) := M6.out.trans (M7'.out.mono M6.out.size)
      have X7 : Hid (DBlk w7 w5.heap.size ⟨⟨a1, n1, k1⟩, ⟨a2, n2, k2⟩, ⟨a3, n3, k3⟩, ⟨a4, 4, k4⟩⟩) := (M7'.out.block _ X6.out.lt).trans X6.out
      have BW7 : Hid (Below w.heap.size w (w7.alloc (.cells #[.slice none 0 0, .slice none 0 0, .slice none 0 0, .slice none 0 0] 29))) := B5.out.trans ((M7.out.trans ((new_below _ _).mono M7.out.size)).mono B5.out.size)
      clear KC N6 H7 M6 X6 M7'
      have KD := Lib.hid (parse_txt0 (w7.alloc (.cells #[.slice none 0 0, .slice none 0 0, .slice none 0 0, .slice none 0 0] 29)) (H.out _ BW7.out).2)
      go_wp2_with fail
      refine KD.out.mono ?_
      rintro e w8 ⟨rfl, H8⟩
      have M8' : Hid (Below w7.heap.size w7 w8) := (new_below _ _).trans (H8.out.mono (new_below _ _).size)
      have M8 : Hid (Below w5.heap.size w5 w8) := M7.out.trans (M8'.out.mono M7.out.size)
      have X8 : Hid (DBlk (w8.alloc (.cells #[.slice none 0 0, .slice none 0 0, .slice none 0 0, .slice none 0 0] 29)) w5.heap.size ⟨⟨a1, n1, k1⟩, ⟨a2, n2, k2⟩, ⟨a3, n3, k3⟩, ⟨a4, 4, k4⟩⟩) := dblk_up ((M8'.out.block _ X7.out.lt).trans X7.out) _
      have c3 := X8.out.box.2.2.2.1
      simp only at c3
      have N8 : Hid (Below w8.heap.size w8 ((w8.alloc (.cells #[.slice none 0 0, .slice none 0 0, .slice none 0 0, .slice none 0 0] 29)).alloc (.cells #[.int .u8 1, .int .u8 2, .int .u8 3, .int .u8 4] 5))) := (new_below _ _).trans ((new_below _ _).mono (new_below _ _).size)
      have M9 : Hid (Below w5.heap.size w5 ((w8.alloc (.cells #[.slice none 0 0, .slice none 0 0, .slice none 0 0, .slice none 0 0] 29)).alloc (.cells #[.int .u8 1, .int .u8 2, .int .u8 3, .int .u8 4] 5))) := M8.out.trans (N8.out.mono M8.out.size)
      have B9 : Hid (Below w.heap.size w ((w8.alloc (.cells #[.slice none 0 0, .slice none 0 0, .slice none 0 0, .slice none 0 0] 29)).alloc (.cells #[.int .u8 1, .int .u8 2, .int .u8 3, .int .u8 4] 5))) := B5.out.trans (M9.out.mono B5.out.size)
      have KE : Hid (Calls Tryz.prog 33 #[.slice a4 4 k4, .slice (some ⟨w8.heap.size + 1, 0, none⟩) 4 4] ((w8.alloc (.cells #[.slice none 0 0, .slice none 0 0, .slice none 0 0, .slice none 0 0] 29)).alloc (.cells #[.int .u8 1, .int .u8 2, .int .u8 3, .int .u8 4] 5)) fun e w' => e = .returned (.bool true) ∧ w' = ((w8.alloc (.cells #[.slice none 0 0, .slice none 0 0, .slice none 0 0, .slice none 0 0] 29)).alloc (.cells #[.int .u8 1, .int .u8 2, .int .u8 3, .int .u8 4] 5))) := by
        have hz : (w8.alloc (.cells #[.slice none 0 0, .slice none 0 0, .slice none 0 0, .slice none 0 0] 29)).heap.size = w8.heap.size + 1 := by simp
        have hb := new_b (w8.alloc (.cells #[.slice none 0 0, .slice none 0 0, .slice none 0 0, .slice none 0 0] 29)) [1, 2, 3, 4] 4 rfl (by omega) (by decide)
        rw [hz] at hb
        exact same_yes a4 (some ⟨w8.heap.size + 1, 0, none⟩) 4 k4 4 [1, 2, 3, 4] _ (R5.out.below M9.out) hb.rd rfl
      clear KD BW7 H8 M7 X7 M8' M8 X8 N8 M9 R5 B5
      go_wp2_with fail
      refine KE.out.mono ?_
      rintro e w9 ⟨rfl, hw9⟩
      have BQ : Hid (Below w.heap.size w w9) := by rw [hw9]; exact B9.out
      clear KE B9 hw9 c3
      have KF1 := Lib.hid (by have := str_call ⟨#[92, 48, 54, 53, 92, 34]⟩ (by decide) w9 (H.out _ BQ.out).2; rw [st_is.1] at this; exact this)
      go_wp2_with fail
      refine KF1.out.mono ?_
      rintro e s1 ⟨rfl, QF1⟩
      have BQ1 : Hid (Below w.heap.size w s1) := BQ.out.trans (QF1.out.mono BQ.out.size)
      clear KF1 BQ
      have KF2 := Lib.hid (str_call ⟨#[92, 50, 53]⟩ (by decide) s1 (H.out _ BQ1.out).2)
      go_wp2_with fail
      refine KF2.out.mono ?_
      rintro e s2 ⟨rfl, QF2⟩
      have BQ2 : Hid (Below w.heap.size w s2) := BQ1.out.trans (QF2.out.mono BQ1.out.size)
      clear KF2 BQ1
      rw [st_is.2.1]
      have KF3 := Lib.hid (str_call ⟨#[92, 50, 53, 54]⟩ (by decide) s2 (H.out _ BQ2.out).2)
      go_wp2_with fail
      refine KF3.out.mono ?_
      rintro e s3 ⟨rfl, QF3⟩
      have BQ3 : Hid (Below w.heap.size w s3) := BQ2.out.trans (QF3.out.mono BQ2.out.size)
      clear KF3 BQ2
      rw [st_is.2.2]
      have KF4 := Lib.hid (paddr_yes ⟨#[58, 58]⟩ z16 (by decide) ad_is.1 s3 (H.out _ BQ3.out).2)
      go_wp2_with fail
      refine KF4.out.mono ?_
      rintro e s4 ⟨ao1, q1, rfl, QF4⟩
      have BQ4 : Hid (Below w.heap.size w s4) := BQ3.out.trans (QF4.out.2.mono BQ3.out.size)
      clear KF4 BQ3
      have RA : Hid (Rd s4 ao1 z16) := QF4.out.1
      have KF5 := Lib.hid (paddr_yes ⟨#[49, 58, 58, 50]⟩ m16 (by decide) ad_is.2.1 s4 (H.out _ BQ4.out).2)
      go_wp2_with fail
      refine KF5.out.mono ?_
      rintro e s5 ⟨ao2, q2, rfl, QF5⟩
      have BQ5 : Hid (Below w.heap.size w s5) := BQ4.out.trans (QF5.out.2.mono BQ4.out.size)
      clear KF5 BQ4
      have RA5 : Hid (Rd s5 ao1 z16 ∧ Rd s5 ao2 m16) := ⟨RA.out.below QF5.out.2, QF5.out.1⟩
      clear RA
      have KF6 := Lib.hid (paddr_nope ⟨#[49, 58, 50]⟩ (by decide) ad_is.2.2.1 s5 (H.out _ BQ5.out).2)
      go_wp2_with fail
      refine KF6.out.mono ?_
      rintro e s6 ⟨rfl, QF6⟩
      have BQ6 : Hid (Below w.heap.size w s6) := BQ5.out.trans (QF6.out.mono BQ5.out.size)
      clear KF6 BQ5
      have RA6 : Hid (Rd s6 ao1 z16 ∧ Rd s6 ao2 m16) := ⟨RA5.out.1.below QF6.out, RA5.out.2.below QF6.out⟩
      clear RA5
      have KF7 := Lib.hid (paddr_nope ⟨#[58, 58, 49, 58, 58]⟩ (by decide) ad_is.2.2.2 s6 (H.out _ BQ6.out).2)
      go_wp2_with fail
      refine KF7.out.mono ?_
      rintro e s7 ⟨rfl, QF7⟩
      have BQ7 : Hid (Below w.heap.size w s7) := BQ6.out.trans (QF7.out.mono BQ6.out.size)
      clear KF7 BQ6
      have RA7 : Hid (Rd s7 ao1 z16 ∧ Rd s7 ao2 m16) := ⟨RA6.out.1.below QF7.out, RA6.out.2.below QF7.out⟩
      clear RA6
      have hmk := mk16
      have N7 : Hid (Below s7.heap.size s7 (s7.alloc (.cells #[.int .u8 0, .int .u8 0, .int .u8 0, .int .u8 0, .int .u8 0, .int .u8 0, .int .u8 0, .int .u8 0, .int .u8 0, .int .u8 0, .int .u8 0, .int .u8 0, .int .u8 0, .int .u8 0, .int .u8 0, .int .u8 0] 5))) := new_below _ _
      obtain ⟨b2, o2, rfl, hc2⟩ := rd_at (RA7.out.2.below N7.out) 0 (by decide)
      have m1 := hc2 1 (by decide)
      have m15 := hc2 15 (by decide)
      simp only [List.getD_cons_zero, List.getD_cons_succ, List.length_cons, List.length_nil] at m1 m15 ⊢
      clear hc2 QF1 QF2 QF3 QF4 QF5 QF6 QF7
      have KS : Hid (Calls Tryz.prog 33 #[.slice ao1 16 q1, .slice (some ⟨s7.heap.size, 0, none⟩) 16 16] (s7.alloc (.cells #[.int .u8 0, .int .u8 0, .int .u8 0, .int .u8 0, .int .u8 0, .int .u8 0, .int .u8 0, .int .u8 0, .int .u8 0, .int .u8 0, .int .u8 0, .int .u8 0, .int .u8 0, .int .u8 0, .int .u8 0, .int .u8 0] 5)) fun e w' => e = .returned (.bool true) ∧ w' = (s7.alloc (.cells #[.int .u8 0, .int .u8 0, .int .u8 0, .int .u8 0, .int .u8 0, .int .u8 0, .int .u8 0, .int .u8 0, .int .u8 0, .int .u8 0, .int .u8 0, .int .u8 0, .int .u8 0, .int .u8 0, .int .u8 0, .int .u8 0] 5))) :=
        same_yes ao1 (some ⟨s7.heap.size, 0, none⟩) 16 q1 16 z16 _ (RA7.out.1.below N7.out) (new_b s7 z16 16 rfl (by omega) (by decide)).rd rfl
      have BZ : Hid (Below w.heap.size w (s7.alloc (.cells #[.int .u8 0, .int .u8 0, .int .u8 0, .int .u8 0, .int .u8 0, .int .u8 0, .int .u8 0, .int .u8 0, .int .u8 0, .int .u8 0, .int .u8 0, .int .u8 0, .int .u8 0, .int .u8 0, .int .u8 0, .int .u8 0] 5))) := BQ7.out.trans (N7.out.mono BQ7.out.size)
      go_wp2_with fail
      refine KS.out.mono ?_
      rintro e w10 ⟨rfl, hw10⟩
      rw [← hw10] at m1 m15 BZ
      clear KS hw10 RA7 N7 BQ7 hmk
      have KW := Lib.hid (awake6 w10 (H.out _ BZ.out).1)
      go_wp2_with fail
      refine KW.out.mono ?_
      rintro e w11 ⟨rfl, H11⟩
      go_wp2_with fail
      go_ret
      exact ⟨rfl, BZ.out.trans (H11.out.mono BZ.out.size)⟩
end Go.Proofs.YtfkfjodfjgjbkaaGreatDoor
