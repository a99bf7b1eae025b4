/- A writer in memory: its bytes, the places that it keeps; New, made, Len, All, Bytes. -/
import Derived.Test.YtfnpiknobmecbaaSqb
import Derived.Test.YtfnpiknobmecbaaSqd
import Derived.Test.YtfnpiknobmecbaaNxh
import Derived.Test.YtfnpiknobmecbaaKb
import Derived.Maps.OwnSet
import Derived.LaidEqlPtr
namespace Go.Proofs.Ytfnpiknobmecbaa
open Go.ChangeShapes Go.WideShapes Go.ChangeAt Go.RowKit Go.Maps
set_option linter.unusedVariables false
set_option linter.unusedSimpArgs false

theorem law9 : Keyed Try.prog 9 := string_keyed Try.underlying9
theorem zero3 (w : World) : (zeroValue 3).run Try.prog w = .ok (.int .i64 0) w := by kernel_rfl
theorem str_inj {a b : ByteArray} (h : (Lit.string a.data.toList) = Lit.string b.data.toList) : a = b := by
  injection h with h
  cases a with | mk x => cases b with | mk y => simp at h; rw [h]
/-- The map of places, at block b. -/
def PlM (w : World) (b : Nat) (pl : List (ByteArray × Nat)) : Prop := ∃ M : DataW Unit, w.ownsMap Try.prog 9 (plainElem Try.prog 3) b pl.length M ∧
  ∀ s : ByteArray, (qfind pl s = none → has M (.string s.data.toList) = false) ∧ (∀ p, qfind pl s = some p → has M (.string s.data.toList) = true ∧ M.atKey (.string s.data.toList) (.lit (.int .i64 0)) = .lit (.int .i64 (p : Int)))
theorem PlM.same {w w' : World} {b : Nat} {pl : List (ByteArray × Nat)} (h : PlM w b pl) (hb : w'.heap[b]? = w.heap[b]?) : PlM w' b pl := by
  obtain ⟨M, h1, h2⟩ := h
  refine ⟨M, ?_, h2⟩
  obtain ⟨es, clock, h3, h4⟩ := h1
  exact ⟨es, clock, hb.trans h3, h4⟩
theorem PlM.isMap {w : World} {b : Nat} {pl : List (ByteArray × Nat)} (h : PlM w b pl) : ∃ es clock, w.heap[b]? = some (.map es clock) := by
  obtain ⟨M, ⟨es, clock, h3, _⟩, _⟩ := h
  exact ⟨es, clock, h3⟩
theorem PlM.made (w : World) : PlM (w.alloc (.map #[] 0)) w.heap.size [] := ⟨.map [], World.ownsMap_made _ _ _ _, fun s => ⟨fun _ => by simp [has], fun p h => by simp [qfind] at h⟩⟩
theorem PlM.put {w' : World} {b : Nat} {pl : List (ByteArray × Nat)} {M : DataW Unit} (s : ByteArray) (p : Nat) (hM : IsMap M) (hf : qfind pl s = none)
    (h2 : ∀ s : ByteArray, (qfind pl s = none → has M (.string s.data.toList) = false) ∧ (∀ p, qfind pl s = some p → has M (.string s.data.toList) = true ∧ M.atKey (.string s.data.toList) (.lit (.int .i64 0)) = .lit (.int .i64 (p : Int))))
    (h3 : w'.ownsMap Try.prog 9 (plainElem Try.prog 3) b (pl.length + 1) (M.put (.string s.data.toList) (.lit (.int .i64 (p : Int))))) : PlM w' b ((s, p) :: pl) := by
  refine ⟨_, h3, fun r => ?_⟩
  by_cases e : r = s
  · subst e
    have hk : WideAt.IsKeyLit (Lit.string r.data.toList) := by simp [WideAt.IsKeyLit]
    refine ⟨fun h => by simp [qfind] at h, fun q h => ?_⟩
    simp [qfind] at h
    subst h
    exact ⟨has_put_same hM hk _, atKey_put_same hM hk _ _⟩
  · have hne : (Lit.string r.data.toList) ≠ Lit.string s.data.toList := fun h => e (str_inj h)
    rw [has_put_other hne, atKey_put_other hne]
    have : qfind ((s, p) :: pl) r = qfind pl r := by simp [qfind, Ne.symm e]
    rw [this]
    exact h2 r
/-- What a call of a writer that was made from block B on leaves as it was: what lies below B, and all rows but those of bytes and of writers. -/
structure Fr (B : Nat) (w w' : World) : Prop where
  below : Below B w w'
  oth : ∀ (j : Nat) (cs : Array Value) (t : TypeId) (fr : Nat × Nat), w.heap[j]? = some (Obj.cells cs t fr) → t ≠ 5 → t ≠ 50 → w'.heap[j]? = w.heap[j]?
theorem Fr.refl (B : Nat) (w : World) : Fr B w w := ⟨Below.refl _ _, fun _ _ _ _ _ _ _ => rfl⟩
theorem Fr.trans {B : Nat} {a b c : World} (h : Fr B a b) (k : Fr B b c) : Fr B a c :=
  ⟨h.below.trans k.below, fun j cs t fr hj h5 h50 => by
    have e := h.oth j cs t fr hj h5 h50
    exact (k.oth j cs t fr (e.trans hj) h5 h50).trans e⟩
theorem Fr.of {B : Nat} {w w' : World} (h : Below w.heap.size w w') (hB : B ≤ w.heap.size) : Fr B w w' :=
  ⟨h.mono hB, fun j cs t fr hj _ _ => h.block j (Array.getElem?_eq_some_iff.1 hj).1⟩
/-- A writer at block g, made from block B on: its bytes, what it keeps. -/
structure Wr1 (B : Nat) (w : World) (g : Nat) (tx : List Int) (pl : List (ByteArray × Nat)) (v : Value) (ys : List Int) (mb : Nat) : Prop where
  box : w.heap[g]? = some (.cells #[.pointer (some ⟨g, 0, none⟩), v, .map (some mb)] 50)
  gB : B ≤ g
  mB : B ≤ mb
  own : Own B w v tx.length ys
  txt : ys.take tx.length = tx
  map : PlM w mb pl
def Wr (B : Nat) (w : World) (g : Nat) (tx : List Int) (pl : List (ByteArray × Nat)) : Prop := ∃ v ys mb, Wr1 B w g tx pl v ys mb
theorem Own.keepAt {B : Nat} {w w' : World} {v : Value} {n : Nat} {zs : List Int} (h : Own B w v n zs) (hb : ∀ g, v.ownBlock = some g → g < w.heap.size → w'.heap[g]? = w.heap[g]?) : Own B w' v n zs := by
  rcases h with h | ⟨g, h1, h2, h3, h4⟩
  · exact .inl h
  · exact .inr ⟨g, h1, h2, h3.same (hb g (by rw [h1]; rfl) h3.lt), h4⟩
theorem Wr1.below {B : Nat} {w w' : World} {g : Nat} {tx : List Int} {pl : List (ByteArray × Nat)} {v : Value} {ys : List Int} {mb : Nat} (h : Wr1 B w g tx pl v ys mb) (hb : Below w.heap.size w w') : Wr1 B w' g tx pl v ys mb :=
  ⟨(hb.block g (Array.getElem?_eq_some_iff.1 h.box).1).trans h.box, h.gB, h.mB, h.own.below hb, h.txt, h.map.same (hb.block mb (by obtain ⟨es, c, e⟩ := h.map.isMap; exact (Array.getElem?_eq_some_iff.1 e).1))⟩
theorem Wr.below {B : Nat} {w w' : World} {g : Nat} {tx : List Int} {pl : List (ByteArray × Nat)} (h : Wr B w g tx pl) (hb : Below w.heap.size w w') : Wr B w' g tx pl := by
  obtain ⟨v, ys, mb, h⟩ := h
  exact ⟨v, ys, mb, h.below hb⟩
theorem Blk.type {w : World} {g : Nat} {zs : List Int} (h : Blk w g zs) : ∃ cs, w.heap[g]? = some (.cells cs 5 (0, 0)) := ⟨_, h.1⟩
/-- A row of another element type is written (a list of the caller's): a writer stays. -/
theorem Wr.row {B : Nat} {w w' : World} {g : Nat} {tx : List Int} {pl : List (ByteArray × Nat)} (h : Wr B w g tx pl) {o : Option Nat} (hg : w.grownBy w' o) (ho : ∀ j, o = some j → ∃ (cs : Array Value) (t : TypeId) (fr : Nat × Nat), w.heap[j]? = some (Obj.cells cs t fr) ∧ t ≠ 5 ∧ t ≠ 50) : Wr B w' g tx pl := by
  obtain ⟨v, ys, mb, h⟩ := h
  refine ⟨v, ys, mb, ?_, h.gB, h.mB, ?_, h.txt, ?_⟩
  · refine (hg.block g (Array.getElem?_eq_some_iff.1 h.box).1 (fun e => ?_)).trans h.box
    obtain ⟨cs, t, fr, e1, e2, e3⟩ := ho g e.symm
    rw [h.box] at e1; cases e1; exact e3 rfl
  · refine h.own.keepAt (fun k hk hl => hg.block k hl (fun e => ?_))
    obtain ⟨cs, t, fr, e1, e2, e3⟩ := ho k e.symm
    rcases h.own with ⟨rfl, _⟩ | ⟨k', rfl, _, hbl, _⟩
    · cases hk
    · obtain rfl : k' = k := Option.some.inj hk
      obtain ⟨cs', e4⟩ := hbl.type
      rw [e4] at e1; cases e1; exact e2 rfl
  · obtain ⟨es, c, e4⟩ := h.map.isMap
    refine h.map.same (hg.block mb (Array.getElem?_eq_some_iff.1 e4).1 (fun e => ?_))
    obtain ⟨cs, t, fr, e1, _⟩ := ho mb e.symm
    rw [e4] at e1; cases e1
theorem eql_ptr_same (a : Addr) (w : World) : (binOp .eql 24 (.pointer (some a)) (.pointer (some a))).run Try.prog w = .ok (.bool true) w := by
  obtain ⟨j, hi⟩ : ∃ j, Try.prog.info? 50 = some j := Option.isSome_iff_exists.1 (by kernel_rfl)
  have h : ∀ d : Nat, (Op.equalIn (d + 1) 24 (.pointer (some a)) (.pointer (some a))).run Try.prog w = .ok true w := fun d => by
    simp [Op.equalIn, run_underlying Try.underlying24, sizeOf, typeInfo, hi, run_sameAddr_same]
  simp only [binOp]
  simp [Op.equal, Op.maxDepth, h 9999]
theorem neq_ptr_nil (a : Addr) (w : World) : (binOp .neq 24 (.pointer (some a)) (.pointer none)).run Try.prog w = .ok (.bool true) w := by
  have h : ∀ d : Nat, (Op.equalIn (d + 1) 24 (.pointer (some a)) (.pointer none)).run Try.prog w = .ok false w := fun d => by
    simp [Op.equalIn, run_underlying Try.underlying24]
  simp only [binOp]
  simp [Op.equal, Op.maxDepth, h 9999]
theorem eql_nil_ptr (a : Addr) (w : World) : (binOp .eql 24 (.pointer none) (.pointer (some a))).run Try.prog w = .ok (.bool false) w := by
  have h : ∀ d : Nat, (Op.equalIn (d + 1) 24 (.pointer none) (.pointer (some a))).run Try.prog w = .ok false w := fun d => by
    simp [Op.equalIn, run_underlying Try.underlying24]
  simp only [binOp]
  simp [Op.equal, Op.maxDepth, h 9999]
theorem neq_nil_nil (w : World) : (binOp .neq 24 (.pointer none) (.pointer none)).run Try.prog w = .ok (.bool false) w := by
  have h : ∀ d : Nat, (Op.equalIn (d + 1) 24 (.pointer none) (.pointer none)).run Try.prog w = .ok true w := fun d => by
    simp [Op.equalIn, run_underlying Try.underlying24]
  simp only [binOp]
  simp [Op.equal, Op.maxDepth, h 9999]
theorem box_cell {w : World} {g : Nat} {cs : Array Value} {t : TypeId} (h : w.heap[g]? = some (.cells cs t)) (k : Nat) (v : Value) (hk : cs[k]? = some v) : w.cell? ⟨g, k, none⟩ = some v := by
  simp [World.cell?, h, hk]
theorem box_frozen {w : World} {g : Nat} {cs : Array Value} {t : TypeId} (h : w.heap[g]? = some (.cells cs t)) (k : Nat) : w.frozen? ⟨g, k, none⟩ = false := by
  simp [World.frozen?, h]
theorem box_lt {w : World} {g : Nat} {o : Obj} (h : w.heap[g]? = some o) : g < w.heap.size := (Array.getElem?_eq_some_iff.1 h).1
theorem box_set {w : World} {g : Nat} {cs : Array Value} {t : TypeId} (h : w.heap[g]? = some (.cells cs t)) (k : Nat) (v : Value) : (w.setCell ⟨g, k, none⟩ v).heap[g]? = some (.cells (cs.setIfInBounds k v) t) := heap_set h k v
set_option maxRecDepth 100000 in
theorem made_yes (g : Nat) (w : World) (h : w.cell? ⟨g, 0, none⟩ = some (.pointer (some ⟨g, 0, none⟩))) (hg : g < w.heap.size) :
    Calls Try.prog 37 #[.pointer (some ⟨g, 0, none⟩)] w fun e w' => e = .returned (.bool true) ∧ w' = w := by
  have h1 := eql_ptr_same ⟨g, 0, none⟩
  have h2 := neq_ptr_nil ⟨g, 0, none⟩
  go_enter Try.func37, Try.ntmps37
  go_wp2
  go_ret
  exact ⟨rfl, rfl⟩
set_option maxRecDepth 100000 in
theorem made_nil (w : World) : Calls Try.prog 37 #[.pointer none] w fun e w' => e = .returned (.bool false) ∧ w' = w := by
  have h1 := neq_nil_nil
  go_enter Try.func37, Try.ntmps37
  go_wp2
  go_ret
  exact ⟨rfl, rfl⟩
set_option maxRecDepth 100000 in
theorem made_zero (g : Nat) (w : World) (h : w.cell? ⟨g, 0, none⟩ = some (.pointer none)) (hg : g < w.heap.size) :
    Calls Try.prog 37 #[.pointer (some ⟨g, 0, none⟩)] w fun e w' => e = .returned (.bool false) ∧ w' = w := by
  have h1 := eql_nil_ptr ⟨g, 0, none⟩
  have h2 := neq_ptr_nil ⟨g, 0, none⟩
  go_enter Try.func37, Try.ntmps37
  go_wp2
  go_ret
  exact ⟨rfl, rfl⟩
set_option maxRecDepth 100000 in
theorem len_any (B g : Nat) (tx : List Int) (pl : List (ByteArray × Nat)) (w : World) (h : Wr B w g tx pl) :
    Calls Try.prog 26 #[.pointer (some ⟨g, 0, none⟩)] w fun e w' => e = .returned (.int .i64 tx.length) ∧ w' = w := by
  obtain ⟨v, ys, mb, h⟩ := h
  have hg := box_lt h.box
  have c0 := box_cell h.box 0 _ rfl
  have c1 := box_cell h.box 1 _ rfl
  obtain ⟨ao, rfl, _⟩ := h.own.addr
  generalize tx.length = n at *
  have KM := Lib.hid (made_yes g w c0 hg)
  go_enter Try.func26, Try.ntmps26
  go_wp2_with fail
  refine KM.out.mono ?_
  rintro e w1 ⟨rfl, rfl⟩
  go_wp2
  go_ret
  exact ⟨rfl, rfl⟩
set_option maxRecDepth 100000 in
set_option maxHeartbeats 1000000 in
theorem all_any (B g : Nat) (tx : List Int) (pl : List (ByteArray × Nat)) (w : World) (h : Wr B w g tx pl) (ht : tx.length ≤ 100000) :
    Calls Try.prog 12 #[.pointer (some ⟨g, 0, none⟩)] w fun e w' => ∃ v ys, e = .returned v ∧ Hid (Own w.heap.size w' v tx.length ys ∧ ys.take tx.length = tx ∧ Below w.heap.size w w') := by
  obtain ⟨v, ys, mb, h⟩ := h
  have hg := box_lt h.box
  have c0 := box_cell h.box 0 _ rfl
  have c1 := box_cell h.box 1 _ rfl
  obtain ⟨ao, rfl, hA⟩ := h.own.addr
  have HR : Hid (Rd w ao tx) := by have := hA.rdTake tx.length; rw [h.txt] at this; exact this
  have HN : Hid (ao = none → tx.length = 0 ∧ ys.length = 0) := fun e => by have := hA.nil e; have := hA.le; omega
  obtain ⟨n, hn⟩ : ∃ n, tx.length = n := ⟨_, rfl⟩
  have KM := Lib.hid (made_yes g w c0 hg)
  have KC : Hid (Calls Try.prog 38 #[.slice ao n ys.length] w fun e w' => ∃ v ys, e = .returned v ∧ Hid (Own w.heap.size w' v n ys ∧ ys.take n = tx ∧ Below w.heap.size w w')) := by
    cases ao with
    | none =>
      obtain ⟨e1, e2⟩ := HN.out rfl
      rw [e2, ← hn, e1]
      refine (clone_none w).mono ?_
      rintro e w' ⟨rfl, rfl⟩
      exact ⟨_, [], rfl, .inl ⟨rfl, rfl, rfl⟩, (List.eq_nil_of_length_eq_zero e1).symm ▸ rfl, Below.refl _ _⟩
    | some x =>
      rw [← hn]
      refine (clone_any x _ tx w HR.out (by omega)).mono ?_
      rintro e w' ⟨v, zs, rfl, h1, h2, h3⟩
      exact ⟨v, zs, rfl, h1, h2, h3⟩
  rw [hn] at c1 ⊢
  generalize ys.length = C at *
  clear h hA HN HR
  go_enter Try.func12, Try.ntmps12
  go_wp2_with fail
  refine KM.out.mono ?_
  rintro e w1 ⟨rfl, rfl⟩
  go_wp2_with fail
  refine KC.out.mono ?_
  rintro e w2 ⟨v, zs, rfl, H2⟩
  go_wp2
  go_ret
  exact ⟨v, zs, rfl, H2⟩
end Go.Proofs.Ytfnpiknobmecbaa
