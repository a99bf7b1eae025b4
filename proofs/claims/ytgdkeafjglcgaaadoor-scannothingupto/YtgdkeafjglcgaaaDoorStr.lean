/- Lists of bytes of one's own, texts as numbers, and what stays of them. -/
import Derived.Test.YtgdkeafjglcgaaaDoorOwn
import Derived.Laws.IdiomStrings
namespace Go.Proofs.YtgdkeafjglcgaaaDoor
open Go.ChangeShapes Go.WideShapes Go.ChangeAt Go.RowKit
set_option linter.unusedVariables false
set_option linter.unusedSimpArgs false




/-- The text of bytes. -/
def txt (zs : List Int) : List UInt8 := zs.map fun z => UInt8.ofNat z.toNat
theorem txt_len (zs : List Int) : (txt zs).length = zs.length := by simp [txt]
theorem conv_rd (a : Option Addr) (n c : Nat) (zs : List Int) (w : World) (hr : Rd w a zs) (hl : zs.length = n) :
    (convert 49 9 (.slice a n c)).run Tryd.prog w = .ok (.string ⟨(txt zs).toArray⟩) w := by
  cases a with
  | none =>
    rcases hr.1 with h1 | ⟨b, o, h, _⟩
    · subst h1; subst hl
      rw [run_convert_bytes_string w 49 9 5 none _ c Tryd.underlying49 Tryd.underlying5 Tryd.underlying9]
      simp [Conv.bytesToString, txt]
      rfl
    · cases h
  | some x =>
    have := run_convert_bytes_back (P := Tryd.prog) w 49 9 5 x c (txt zs) Tryd.underlying49 Tryd.underlying5 Tryd.underlying9 (fun j hj => by
      rcases hr.1 with h1 | ⟨b, o, h, _, h2⟩
      · subst h1; simp [txt] at hj
      · cases h
        have hj' : j < zs.length := by simpa [txt] using hj
        have e := h2 j hj'
        have hz := hr.2 (zs[j]) (List.getElem_mem hj')
        rw [Addr.add_lit, e]
        simp [txt, hj']
        omega)
    rw [txt_len, hl] at this
    exact this
/-- A list of bytes at an address of its own. -/
def OwnA (B : Nat) (w : World) (ao : Option Addr) (n : Nat) (zs : List Int) : Prop :=
  (ao = none ∧ n = 0 ∧ zs = []) ∨ ∃ g, ao = some ⟨g, 0, none⟩ ∧ B ≤ g ∧ Blk w g zs ∧ n ≤ zs.length ∧ zs.length ≤ maxLen
/-- The block of an address. -/
def blk (ao : Option Addr) : Option Nat := ao.map (·.block)
theorem Own.addr {B : Nat} {w : World} {v : Value} {n : Nat} {zs : List Int} (h : Own B w v n zs) : ∃ ao, v = .slice ao n zs.length ∧ OwnA B w ao n zs := by
  rcases h with ⟨rfl, rfl, rfl⟩ | ⟨g, rfl, hB, hb, hn, hm⟩
  · exact ⟨none, rfl, .inl ⟨rfl, rfl, rfl⟩⟩
  · exact ⟨some ⟨g, 0, none⟩, rfl, .inr ⟨g, rfl, hB, hb, hn, hm⟩⟩
theorem OwnA.mono {B B' : Nat} {w : World} {ao : Option Addr} {n : Nat} {zs : List Int} (h : OwnA B w ao n zs) (hB : B' ≤ B) : OwnA B' w ao n zs := by
  rcases h with h | ⟨g, h1, h2, h3⟩
  · exact .inl h
  · exact .inr ⟨g, h1, Nat.le_trans hB h2, h3⟩
theorem OwnA.keep {B : Nat} {w w' : World} {ao : Option Addr} {n : Nat} {zs : List Int} (h : OwnA B w ao n zs) (hb : ∀ g, blk ao = some g → g < w.heap.size → w'.heap[g]? = w.heap[g]?) : OwnA B w' ao n zs := by
  rcases h with h | ⟨g, rfl, h2, h3, h4⟩
  · exact .inl h
  · exact .inr ⟨g, rfl, h2, h3.same (hb g rfl h3.lt), h4⟩
theorem OwnA.below {B : Nat} {w w' : World} {ao : Option Addr} {n : Nat} {zs : List Int} (h : OwnA B w ao n zs) (hb : Below w.heap.size w w') : OwnA B w' ao n zs :=
  h.keep fun g _ hg => hb.block g hg
theorem OwnA.lt {B : Nat} {w : World} {ao : Option Addr} {n : Nat} {zs : List Int} (h : OwnA B w ao n zs) : ∀ g, blk ao = some g → B ≤ g ∧ g < w.heap.size := by
  intro g hg
  rcases h with ⟨rfl, _⟩ | ⟨g', rfl, h2, h3, _⟩
  · cases hg
  · have : g' = g := Option.some.inj hg
    subst this; exact ⟨h2, h3.lt⟩
theorem OwnA.rd {B : Nat} {w : World} {ao : Option Addr} {n : Nat} {zs : List Int} (h : OwnA B w ao n zs) : Rd w ao zs := by
  rcases h with ⟨rfl, _, rfl⟩ | ⟨g, rfl, h2, h3, _⟩
  · exact ⟨.inl rfl, by simp⟩
  · have := h3.rd zs.length
    rwa [List.take_of_length_le (Nat.le_refl _)] at this
theorem OwnA.rdTake {B : Nat} {w : World} {ao : Option Addr} {n : Nat} {zs : List Int} (h : OwnA B w ao n zs) (m : Nat) : Rd w ao (zs.take m) := by
  rcases h with ⟨rfl, _, rfl⟩ | ⟨g, rfl, h2, h3, _⟩
  · exact ⟨.inl (by simp), by simp⟩
  · exact h3.rd m
theorem OwnA.nil {B : Nat} {w : World} {ao : Option Addr} {n : Nat} {zs : List Int} (h : OwnA B w ao n zs) : ao = none → zs.length = 0 := by
  rintro rfl
  rcases h with ⟨_, _, rfl⟩ | ⟨g, h, _⟩
  · rfl
  · cases h
theorem OwnA.le {B : Nat} {w : World} {ao : Option Addr} {n : Nat} {zs : List Int} (h : OwnA B w ao n zs) : n ≤ zs.length ∧ zs.length ≤ maxLen := by
  rcases h with ⟨_, rfl, rfl⟩ | ⟨g, _, _, _, h4, h5⟩
  · exact ⟨Nat.le_refl _, Nat.zero_le _⟩
  · exact ⟨h4, h5⟩
/-- The bytes of a text, as numbers. -/
def nums (s : ByteArray) : List Int := s.data.toList.map fun b => (b.toNat : Int)
theorem nums_len (s : ByteArray) : (nums s).length = s.size := by simp [nums]
theorem nums_at (s : ByteArray) (i : Nat) (h : i < s.size) : (nums s).getD i 0 = (s[i].toNat : Int) := by
  have h' : i < s.data.toList.length := by simpa using h
  simp [nums, List.getD_eq_getElem?_getD]
  rw [show s.data[i]? = some s[i] from Array.getElem?_eq_getElem h]
  rfl
theorem nums_bd (s : ByteArray) (i : Nat) : 0 ≤ (nums s).getD i 0 ∧ (nums s).getD i 0 ≤ 255 := by
  by_cases h : i < s.size
  · rw [nums_at s i h]; have := s[i].toNat_lt; omega
  · rw [List.getD_eq_getElem?_getD, List.getElem?_eq_none (by rw [nums_len]; omega)]; simp
theorem Own.below {B : Nat} {w w' : World} {v : Value} {n : Nat} {zs : List Int} (h : Own B w v n zs) (hb : Below w.heap.size w w') : Own B w' v n zs := by
  rcases h with h | ⟨g, h1, h2, h3, h4⟩
  · exact .inl h
  · exact .inr ⟨g, h1, h2, h3.below hb, h4⟩
theorem Own.lt {B : Nat} {w : World} {v : Value} {n : Nat} {zs : List Int} (h : Own B w v n zs) : ∀ g, v.ownBlock = some g → B ≤ g := by
  intro g hg
  rcases h with ⟨rfl, _⟩ | ⟨g', rfl, h2, _⟩
  · cases hg
  · have : g' = g := Option.some.inj hg
    omega
theorem new_rd (w : World) (z : Int) (hz : 0 ≤ z ∧ z ≤ 255) : Rd (w.alloc (.cells #[.int .u8 z] 5)) (some ⟨w.heap.size, 0, none⟩) [z] := by
  refine ⟨.inr ⟨w.heap.size, 0, rfl, by simp, fun i hi => ?_⟩, by simpa using hz⟩
  have : i = 0 := by simp at hi; omega
  subst this
  simp [go_sem]
theorem ret_int {k : IntKind} {a b : Int} (h : a = b) : Ending.returned (.int k a) = .returned (.int k b) := by rw [h]
theorem step_append_blk {ops : Array Oper} {o : Oper} {a : Act} {w : World} {K : Act → World → Prop} {Q : Exit → Act → World → Prop} {E : Prop} (hgd : o.guard = none) (s x : Operand)
    (ho : o.op = .call { callee := .builtin .append, args := #[s, x], argTypes := #[49, 49] }) (B : Nat) (v : Value) (n : Nat) (zs : List Int) (hs : a.eval s = v) (hown : Own B w v n zs)
    (ao : Option Addr) (m c : Nat) (news : List Int) (hx : a.eval x = .slice ao m c) (hr : Rd w ao news) (N : Nat) (hl : news.length = m) (hN : n + m = N) (hc : ao = none → c = 0) (hb : N ≤ 140737488355328) (hB : B ≤ w.heap.size)
    (h : ∀ v' w' zs', Hid (Own B w' v' N zs') → Hid (zs'.take N = zs.take n ++ news) → Hid (w.grownBy w' v.ownBlock) → K (a.put o.dst v') w') :
    if Region.wanted o (yielded ops a.tmps) = true then Oper.wp Tryd.prog o a w K Q else E := by
  have hw : Region.wanted o (yielded ops a.tmps) = true := by simp [Region.wanted, hgd]
  rw [if_pos hw]
  subst hN
  obtain ⟨v', w', zs', hrun, h2, h3, h4⟩ := run_append_blk w B o.type v n zs hown ao m c news hr hl hc hb hB
  unfold Oper.wp execOp
  simp only [ho, resolve, invoke, builtin, Sem.run_bind, Sem.run_pure, Result.andThen_ok, List.map_toArray, List.map_cons, List.map_nil, hs, hx, hrun]
  exact h v' w' zs' h2 h3 h4
theorem heap_set {w : World} {g : Nat} {cur : Array Value} {t : TypeId} {fr : Nat × Nat} (h : w.heap[g]? = some (.cells cur t fr)) (i : Nat) (v : Value) :
    (w.setCell ⟨g, i, none⟩ v).heap[g]? = some (.cells (cur.setIfInBounds i v) t fr) := by
  have hg : g < w.heap.size := (Array.getElem?_eq_some_iff.1 h).1
  have e : w.heap[g] = .cells cur t fr := by
    rw [Array.getElem?_eq_getElem hg] at h; exact Option.some.inj h
  simp [World.setCell, hg, Array.getElem_modify, e]
end Go.Proofs.YtgdkeafjglcgaaaDoor
