/- Words and entries in memory: such that can be read, such of one's own. -/
import Derived.Test.YtgdkeafjglcgaaaDoorStr
import Derived.Test.YtgdkeafjglcgaaaDoorScc
import Derived.Laws.AppendOwn
import Derived.Laws.OwnMore
import Derived.Deep.AppendLies
namespace Go.Proofs.YtgdkeafjglcgaaaDoor
open Go.ChangeShapes Go.WideShapes Go.ChangeAt Go.RowKit
set_option linter.unusedVariables false
set_option linter.unusedSimpArgs false


structure Sl where
  a : Option Addr
  n : Nat
  c : Nat
theorem ad_add (g j : Nat) : (⟨g, 0, none⟩ : Addr).add j = ⟨g, j, none⟩ := by unfold Addr.add; split <;> simp_all
theorem ad_add0 (g j : Nat) : (⟨g, 0, none⟩ : Addr).add j = ⟨g, 0 + j, none⟩ := by rw [ad_add]; simp
theorem row_stays {B e k n : Nat} {v : Value} {xs : List Value} {w w' : World} (h : w.ownsRow B e k v n xs) (hb : ∀ g, v.ownBlock = some g → w'.heap[g]? = w.heap[g]?) : w'.ownsRow B e k v n xs := by
  refine ⟨h.1, ?_⟩
  rcases h.2 with hn | ⟨g, cap, cur, rfl, h1, h2, rest⟩
  · exact .inl hn
  · exact .inr ⟨g, cap, cur, rfl, h1, by rw [hb g rfl]; exact h2, rest⟩
theorem row_low {B B' e k n : Nat} {v : Value} {xs : List Value} {w : World} (h : w.ownsRow B e k v n xs) (hB : B' ≤ B) : w.ownsRow B' e k v n xs :=
  ⟨h.1, h.2.imp id fun ⟨g, cap, cur, h1, h2, h3⟩ => ⟨g, cap, cur, h1, Nat.le_trans hB h2, h3⟩⟩
theorem row_type {B e k n : Nat} {v : Value} {xs : List Value} {w : World} (h : w.ownsRow B e k v n xs) (g : Nat) (hg : v.ownBlock = some g) : ∃ cur, w.heap[g]? = some (.cells cur e (0, 0)) := by
  rcases h.2 with ⟨rfl, _⟩ | ⟨g', cap, cur, rfl, h1, h2, rest⟩
  · simp [Value.ownBlock] at hg
  · simp [Value.ownBlock] at hg; subst hg; exact ⟨cur, h2⟩
/-- Words: two cells each. -/
def cellsW (ws : List Wd) : List Value := ws.flatMap fun p => [.string p.1, .bool p.2]
theorem cellsW_len (ws : List Wd) : (cellsW ws).length = ws.length * 2 := by
  induction ws with
  | nil => rfl
  | cons p ws ih => simp only [cellsW, List.flatMap_cons, List.length_append, List.length_cons, List.length_nil] at ih ⊢; omega
theorem cellsW_at (ws : List Wd) (k : Nat) (h : k < ws.length) : (cellsW ws)[k * 2]? = some (.string ws[k].1) ∧ (cellsW ws)[k * 2 + 1]? = some (.bool ws[k].2) := by
  induction ws generalizing k with
  | nil => simp at h
  | cons p ws ih =>
    cases k with
    | zero => simp [cellsW, List.flatMap_cons]
    | succ k =>
      have := ih k (by simpa using h)
      rw [show (k + 1) * 2 = k * 2 + 1 + 1 by omega]
      simpa [cellsW, List.flatMap_cons] using this
theorem cellsW_app (a b : List Wd) : cellsW (a ++ b) = cellsW a ++ cellsW b := by simp [cellsW]
theorem cellsW_one (ws : List Wd) : ∀ u ∈ cellsW ws, u.oneCell' = true := by
  intro u hu
  simp only [cellsW, List.mem_flatMap] at hu
  obtain ⟨p, _, hu⟩ := hu
  simp at hu
  rcases hu with rfl | rfl <;> rfl
def RdW (w : World) (a : Option Addr) (ws : List Wd) : Prop :=
  ws = [] ∨ ∃ b o, a = some ⟨b, o, none⟩ ∧ b < w.heap.size ∧ ∀ i (h : i < ws.length), w.cell? ⟨b, o + i * 2, none⟩ = some (.string ws[i].1) ∧ w.cell? ⟨b, o + i * 2 + 1, none⟩ = some (.bool ws[i].2)
theorem RdW.at {w : World} {a : Option Addr} {ws : List Wd} (h : RdW w a ws) (i : Nat) (hi : i < ws.length) : ∃ b o, a = some ⟨b, o, none⟩ ∧ b < w.heap.size ∧ w.cell? ⟨b, o + i * 2, none⟩ = some (.string ws[i].1) ∧ w.cell? ⟨b, o + i * 2 + 1, none⟩ = some (.bool ws[i].2) := by
  rcases h with h | ⟨b, o, h1, h2, h3⟩
  · subst h; simp at hi
  · exact ⟨b, o, h1, h2, h3 i hi⟩
theorem RdW.below {w w' : World} {a : Option Addr} {ws : List Wd} (h : RdW w a ws) (hb : Below w.heap.size w w') : RdW w' a ws := by
  rcases h with h | ⟨b, o, h1, h2, h3⟩
  · exact .inl h
  · exact .inr ⟨b, o, h1, Nat.lt_of_lt_of_le h2 hb.size, fun i hi => ⟨(hb.cell (p := ⟨b, o + i * 2, none⟩) h2).trans (h3 i hi).1, (hb.cell (p := ⟨b, o + i * 2 + 1, none⟩) h2).trans (h3 i hi).2⟩⟩
def WRd (w : World) (x : Sl) (ws : List Wd) : Prop := x.n = ws.length ∧ ws.length ≤ x.c ∧ x.c ≤ 9223372036854775807 ∧ RdW w x.a ws
theorem WRd.below {w w' : World} {x : Sl} {ws : List Wd} (h : WRd w x ws) (hb : Below w.heap.size w w') : WRd w' x ws := ⟨h.1, h.2.1, h.2.2.1, h.2.2.2.below hb⟩
theorem row_wrd {B : Nat} {w : World} {v : Value} {ws : List Wd} (h : w.ownsRow B 44 2 v ws.length (cellsW ws)) : ∃ x : Sl, v = .slice x.a x.n x.c ∧ WRd w x ws := by
  rcases h.2 with ⟨rfl, h0⟩ | ⟨g, cap, cur, rfl, hb, hg, h1, h2, h3, h4⟩
  · have : ws = [] := List.length_eq_zero_iff.1 h0
    subst this
    exact ⟨⟨none, 0, 0⟩, rfl, rfl, by simp, by simp, .inl rfl⟩
  · refine ⟨⟨_, ws.length, cap⟩, rfl, rfl, h1, by simpa only [maxLen] using h2, .inr ⟨g, 0, rfl, (Array.getElem?_eq_some_iff.1 hg).1, fun i hi => ?_⟩⟩
    obtain ⟨c1, c2⟩ := cellsW_at ws i hi
    have k1 := h.cells (g := g) rfl _ _ c1
    have k2 := h.cells (g := g) rfl _ _ c2
    rw [ad_add0] at k1 k2
    exact ⟨k1, k2⟩
theorem inf27 : ∃ i, Tryd.prog.info? 44 = some i ∧ i.zero = some (.agg #[.string ⟨#[]⟩, .bool false]) ∧ i.size = 2 ∧ i.bytes = 24 := by
  have h : (Tryd.prog.info? 44).map (fun i => (i.zero, i.size, i.bytes)) = some (some (.agg #[.string ⟨#[]⟩, .bool false]), 2, 24) := by kernel_rfl
  obtain ⟨i, h1, h2⟩ := Option.map_eq_some_iff.1 h
  simp only [Prod.mk.injEq] at h2
  exact ⟨i, h1, h2.1, h2.2.1, h2.2.2⟩
theorem inf25 : ∃ i, Tryd.prog.info? 34 = some i ∧ i.zero = some (.agg #[.int .i64 0, .bool false, .slice none 0 0]) ∧ i.size = 3 ∧ i.bytes = 40 := by
  have h : (Tryd.prog.info? 34).map (fun i => (i.zero, i.size, i.bytes)) = some (some (.agg #[.int .i64 0, .bool false, .slice none 0 0]), 3, 40) := by kernel_rfl
  obtain ⟨i, h1, h2⟩ := Option.map_eq_some_iff.1 h
  simp only [Prod.mk.injEq] at h2
  exact ⟨i, h1, h2.1, h2.2.1, h2.2.2⟩
theorem one_termw (w : World) (s : ByteArray) (q : Bool) : ∀ j u, (cellsW [(s, q)])[j]? = some u → (w.alloc (.cells #[.string s, .bool q] 44)).cell? ((⟨w.heap.size, 0, none⟩ : Addr).add j) = some u := by
  intro j u hu
  rw [ad_add]
  unfold World.cell?
  rw [heap_alloc_new]
  match j, hu with
  | 0, hu => simpa [cellsW] using hu
  | 1, hu => simpa [cellsW] using hu
  | j + 2, hu => simp [cellsW] at hu
/-- Entries: three cells each. -/
def eCells (x : Sl) (e : En) : List Value := [.int .i64 e.line, .bool e.blank, .slice x.a x.n x.c]
def cellsE (ps : List (Sl × En)) : List Value := ps.flatMap fun p => eCells p.1 p.2
theorem cellsE_len (ps : List (Sl × En)) : (cellsE ps).length = ps.length * 3 := by
  induction ps with
  | nil => rfl
  | cons p ps ih => simp only [cellsE, eCells, List.flatMap_cons, List.length_append, List.length_cons, List.length_nil] at ih ⊢; omega
theorem cellsE_at (ps : List (Sl × En)) (k : Nat) (h : k < ps.length) (j : Nat) (hj : j < 3) : (cellsE ps)[k * 3 + j]? = (eCells ps[k].1 ps[k].2)[j]? := by
  induction ps generalizing k with
  | nil => simp at h
  | cons p ws ih =>
    have hc : cellsE (p :: ws) = eCells p.1 p.2 ++ cellsE ws := by simp [cellsE]
    have h8 : (eCells p.1 p.2).length = 3 := rfl
    rw [hc]
    cases k with
    | zero => rw [List.getElem?_append_left (by rw [h8]; omega)]; simp
    | succ k =>
      have := ih k (by simpa using h)
      rw [List.getElem?_append_right (by rw [h8]; omega), h8, show (k + 1) * 3 + j - 3 = k * 3 + j by omega, this]
      simp
theorem cellsE_app (a b : List (Sl × En)) : cellsE (a ++ b) = cellsE a ++ cellsE b := by simp [cellsE]
theorem cellsE_one (xs : List (Sl × En)) : ∀ u ∈ cellsE xs, u.oneCell' = true := by
  intro u hu
  simp only [cellsE, List.mem_flatMap] at hu
  obtain ⟨p, _, hu⟩ := hu
  simp [eCells] at hu
  rcases hu with rfl | rfl | rfl <;> rfl
/-- Entries that can be read. -/
def RdE (w : World) (a : Option Addr) (es : List En) : Prop :=
  es = [] ∨ ∃ b o, a = some ⟨b, o, none⟩ ∧ b < w.heap.size ∧ ∀ i (h : i < es.length), ∃ x : Sl, w.cell? ⟨b, o + i * 3, none⟩ = some (.int .i64 es[i].line) ∧ w.cell? ⟨b, o + i * 3 + 1, none⟩ = some (.bool es[i].blank) ∧ w.cell? ⟨b, o + i * 3 + 2, none⟩ = some (.slice x.a x.n x.c) ∧ WRd w x es[i].ws
theorem RdE.below {w w' : World} {a : Option Addr} {es : List En} (h : RdE w a es) (hb : Below w.heap.size w w') : RdE w' a es := by
  rcases h with h | ⟨b, o, h1, h2, h3⟩
  · exact .inl h
  · refine .inr ⟨b, o, h1, Nat.lt_of_lt_of_le h2 hb.size, fun i hi => ?_⟩
    obtain ⟨x, e1, e2, e3, e4⟩ := h3 i hi
    exact ⟨x, (hb.cell (p := ⟨b, o + i * 3, none⟩) h2).trans e1, (hb.cell (p := ⟨b, o + i * 3 + 1, none⟩) h2).trans e2, (hb.cell (p := ⟨b, o + i * 3 + 2, none⟩) h2).trans e3, e4.below hb⟩
theorem RdE.at {w : World} {a : Option Addr} {es : List En} (h : RdE w a es) (i : Nat) (hi : i < es.length) : ∃ b o, a = some ⟨b, o, none⟩ ∧ b < w.heap.size ∧ ∃ x : Sl, w.cell? ⟨b, o + i * 3, none⟩ = some (.int .i64 es[i].line) ∧ w.cell? ⟨b, o + i * 3 + 1, none⟩ = some (.bool es[i].blank) ∧ w.cell? ⟨b, o + i * 3 + 2, none⟩ = some (.slice x.a x.n x.c) ∧ WRd w x es[i].ws := by
  rcases h with h | ⟨b, o, h1, h2, h3⟩
  · subst h; simp at hi
  · exact ⟨b, o, h1, h2, h3 i hi⟩
/-- A block of words or of entries. -/
def lst (w : World) (j : Nat) : Prop := ∃ cur t, w.heap[j]? = some (.cells cur t (0, 0)) ∧ (t = 34 ∨ t = 44)
theorem lst.lt {w : World} {j : Nat} (h : lst w j) : j < w.heap.size := by obtain ⟨_, _, h, _⟩ := h; exact (Array.getElem?_eq_some_iff.1 h).1
/-- Words that can be read as long as no block of words is written. -/
def RfE (B : Nat) (w : World) (x : Sl) (ws : List Wd) : Prop :=
  ∀ w' : World, w.heap.size ≤ w'.heap.size → (∀ j, B ≤ j → (∃ cur, w.heap[j]? = some (.cells cur 44 (0, 0))) → w'.heap[j]? = w.heap[j]?) → WRd w' x ws
theorem RfE.of {B : Nat} {w : World} {v : Value} {ws : List Wd} (h : w.ownsRow B 44 2 v ws.length (cellsW ws)) : ∃ x : Sl, v = .slice x.a x.n x.c ∧ RfE B w x ws := by
  obtain ⟨x, hx, _⟩ := row_wrd h
  refine ⟨x, hx, fun w' hs hb => ?_⟩
  have h' : w'.ownsRow B 44 2 v ws.length (cellsW ws) := row_stays h (fun g hg => hb g (h.lt g hg).1 (row_type h g hg))
  obtain ⟨y, hy, h2⟩ := row_wrd h'
  rw [hx] at hy
  cases x; cases y
  simp only [Value.slice.injEq] at hy
  obtain ⟨rfl, rfl, rfl⟩ := hy
  exact h2
theorem RfE.go {B : Nat} {w w' : World} {x : Sl} {ws : List Wd} (h : RfE B w x ws) (hs : w.heap.size ≤ w'.heap.size) (hb : ∀ j, B ≤ j → (∃ cur, w.heap[j]? = some (.cells cur 44 (0, 0))) → w'.heap[j]? = w.heap[j]?) : RfE B w' x ws := by
  intro w2 hs2 hb2
  refine h w2 (Nat.le_trans hs hs2) (fun j h1 h2 => ?_)
  have e := hb j h1 h2
  obtain ⟨cur, hc⟩ := h2
  exact (hb2 j h1 ⟨cur, e.trans hc⟩).trans e
/-- Entries of one's own. -/
def OwE (B : Nat) (w : World) (v : Value) (es : List En) : Prop :=
  ∃ ps : List (Sl × En), ps.map (·.2) = es ∧ w.ownsRow B 34 3 v ps.length (cellsE ps) ∧ ∀ p ∈ ps, RfE B w p.1 p.2.ws
theorem OwE.nil (B : Nat) (w : World) : OwE B w (.slice none 0 0) [] := ⟨[], rfl, ⟨rfl, .inl ⟨rfl, rfl⟩⟩, by simp⟩
theorem OwE.go {B : Nat} {w w' : World} {v : Value} {es : List En} (h : OwE B w v es) (hs : w.heap.size ≤ w'.heap.size) (hb : ∀ j, B ≤ j → lst w j → w'.heap[j]? = w.heap[j]?) : OwE B w' v es := by
  obtain ⟨ps, h1, h2, h3⟩ := h
  refine ⟨ps, h1, row_stays h2 (fun g hg => ?_), fun p hp => (h3 p hp).go hs (fun j hj ⟨cur, hc⟩ => hb j hj ⟨cur, 44, hc, .inr rfl⟩)⟩
  obtain ⟨cur, hc⟩ := row_type h2 g hg
  exact hb g (h2.lt g hg).1 ⟨cur, 34, hc, .inl rfl⟩
theorem OwE.stays {B : Nat} {w w' : World} {v : Value} {es : List En} (h : OwE B w v es) (hb : Below w.heap.size w w') : OwE B w' v es :=
  h.go hb.size (fun j _ hj => hb.block j hj.lt)
theorem OwE.low {B B' : Nat} {w : World} {v : Value} {es : List En} (h : OwE B w v es) (hB : B' ≤ B) : OwE B' w v es := by
  obtain ⟨ps, h1, h2, h3⟩ := h
  exact ⟨ps, h1, row_low h2 hB, fun p hp w' hs hb => h3 p hp w' hs (fun j e1 e2 => hb j (by omega) e2)⟩
theorem OwE.rd {B : Nat} {w : World} {v : Value} {es : List En} (h : OwE B w v es) : ∃ a c, v = .slice a es.length c ∧ RdE w a es ∧ es.length ≤ c ∧ c ≤ 9223372036854775807 := by
  obtain ⟨ps, rfl, h2, h3⟩ := h
  have hpl : (ps.map (·.2)).length = ps.length := by simp
  rw [hpl]
  rcases h2.2 with ⟨rfl, h0⟩ | ⟨g, cap, cur, rfl, hb, hg, k1, k2, k3, k4⟩
  · have : ps = [] := List.length_eq_zero_iff.1 h0
    subst this
    exact ⟨none, 0, rfl, .inl rfl, by simp, by omega⟩
  · refine ⟨_, cap, rfl, .inr ⟨g, 0, rfl, (Array.getElem?_eq_some_iff.1 hg).1, fun i hi => ?_⟩, k1, by simpa only [maxLen] using k2⟩
    have hi' : i < ps.length := by simpa using hi
    have hgi : (ps.map (·.2))[i] = ps[i].2 := by simp
    have cc : ∀ j (hj : j < 3), w.cell? ⟨g, 0 + (i * 3 + j), none⟩ = (eCells ps[i].1 ps[i].2)[j]? := fun j hj => by
      have e1 := cellsE_at ps i hi' j hj
      have hlt : j < (eCells ps[i].1 ps[i].2).length := hj
      rw [List.getElem?_eq_getElem hlt] at e1 ⊢
      have := h2.cells (g := g) rfl _ _ e1
      rw [ad_add0] at this
      exact this
    rw [hgi]
    exact ⟨ps[i].1, cc 0 (by omega), by simpa [Nat.add_assoc, eCells] using cc 1 (by omega), by simpa [Nat.add_assoc, eCells] using cc 2 (by omega), h3 ps[i] (List.getElem_mem _) w (Nat.le_refl _) (fun _ _ _ => rfl)⟩
theorem one_en (w : World) (x : Sl) (e : En) : ∀ j u, (cellsE [(x, e)])[j]? = some u → (w.alloc (.cells #[.int .i64 e.line, .bool e.blank, .slice x.a x.n x.c] 34)).cell? ((⟨w.heap.size, 0, none⟩ : Addr).add j) = some u := by
  intro j u hu
  rw [ad_add]
  unfold World.cell?
  rw [heap_alloc_new]
  have : cellsE [(x, e)] = [.int .i64 e.line, .bool e.blank, .slice x.a x.n x.c] := by simp [cellsE, eCells]
  rw [this] at hu
  simpa using hu
/-- One more behind entries. -/
theorem OwE.push {B : Nat} {w w3 w4 : World} {v v' : Value} {ps : List (Sl × En)} {x : Sl} {e : En} (h3 : ∀ p ∈ ps, RfE B w p.1 p.2.ws) (hx : RfE B w x e.ws) (hl : w.ownsRow B 34 3 v ps.length (cellsE ps)) (hb3 : Below w.heap.size w w3) (h5 : w4.ownsRow B 34 3 v' (ps.length + 1) (cellsE ps ++ cellsE [(x, e)])) (h6 : w3.grownBy w4 v.ownBlock) : OwE B w4 v' (ps.map (·.2) ++ [e]) := by
  have hk : ∀ j, B ≤ j → (∃ cur, w.heap[j]? = some (.cells cur 44 (0, 0))) → w4.heap[j]? = w.heap[j]? := by
    intro j hj ⟨cur, hc⟩
    have hlt : j < w.heap.size := (Array.getElem?_eq_some_iff.1 hc).1
    rw [h6.block j (Nat.lt_of_lt_of_le hlt hb3.size) (fun e => ?_), hb3.block j hlt]
    obtain ⟨c2, hc2⟩ := row_type hl j e.symm
    rw [hc] at hc2; cases hc2
  have hs : w.heap.size ≤ w4.heap.size := Nat.le_trans hb3.size h6.size
  refine ⟨ps ++ [(x, e)], by simp, ?_, fun p hp => ?_⟩
  · rw [cellsE_app, List.length_append]; exact h5
  · rcases List.mem_append.1 hp with hp | hp
    · exact (h3 p hp).go hs hk
    · rw [List.mem_singleton] at hp; subst hp; exact hx.go hs hk
/-- An entry's line is written. -/
theorem OwE.line {B : Nat} {w : World} {a : Option Addr} {n c : Nat} {es : List En} (h : OwE B w (.slice a n c) es) (i : Nat) (hi : i < es.length) (z : Int) : ∃ g, a = some ⟨g, 0, none⟩ ∧ B ≤ g ∧ g < w.heap.size ∧ w.frozen? ⟨g, i * 3, none⟩ = false ∧ (∃ v, w.cell? ⟨g, i * 3, none⟩ = some v) ∧ OwE B (w.setCell ⟨g, i * 3, none⟩ (.int .i64 z)) (.slice a n c) (es.set i ⟨z, es[i].blank, es[i].ws⟩) := by
  obtain ⟨ps, rfl, h2, h3⟩ := h
  have hi' : i < ps.length := by simpa using hi
  obtain ⟨g, cap, hv, hB, hg⟩ := h2.form (by omega)
  simp only [Value.slice.injEq] at hv
  obtain ⟨rfl, rfl, rfl⟩ := hv
  have c0 := cellsE_at ps i hi' 0 (by omega)
  refine ⟨g, rfl, hB, hg, h2.frozenAt _, ⟨_, by have := h2.cells (g := g) rfl _ _ (c0.trans (by simp [eCells]; rfl)); rw [ad_add] at this; simpa using this⟩, ?_⟩
  have hst := (h2.stored (i * 3) (.int .i64 z)).1
  have hc : (cellsE ps).set (i * 3) (.int .i64 z) = cellsE (ps.set i (ps[i].1, ⟨z, ps[i].2.blank, ps[i].2.ws⟩)) := by
    clear hst c0 h2 h3 hg hB hi
    induction ps generalizing i with
    | nil => simp at hi'
    | cons p ps ih =>
      cases i with
      | zero => simp [cellsE, eCells]
      | succ i =>
        have e1 : cellsE (p :: ps) = eCells p.1 p.2 ++ cellsE ps := by simp [cellsE]
        have := ih i (by simpa using hi')
        rw [e1, List.set_append_right _ _ (by simp [eCells]; omega)]
        simp only [List.set_cons_succ, List.getElem_cons_succ]
        have e2 : ∀ y, cellsE (p :: y) = eCells p.1 p.2 ++ cellsE y := fun y => by simp [cellsE]
        rw [e2, ← this]
        congr 2
        simp [eCells]; omega
  rw [hc] at hst
  refine ⟨ps.set i (ps[i].1, ⟨z, ps[i].2.blank, ps[i].2.ws⟩), ?_, by rw [List.length_set]; exact hst, fun p hp => ?_⟩
  · rw [List.map_set]; simp
  · have hp' : RfE B w p.1 p.2.ws := by
      rcases List.mem_or_eq_of_mem_set hp with hp | hp
      · exact h3 p hp
      · subst hp; exact h3 ps[i] (List.getElem_mem _)
    refine hp'.go (by simp) (fun j hj ⟨cur, hcur⟩ => Below.heap_setCell _ _ _ _ (fun e => ?_))
    simp only at e; subst e
    obtain ⟨c2, hc2⟩ := row_type h2 j rfl
    rw [hcur] at hc2; cases hc2
end Go.Proofs.YtgdkeafjglcgaaaDoor
