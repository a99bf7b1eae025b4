/- Lists of texts of one's own: what append makes of them; copies; the names' helpers. -/
import Derived.Test.YtfnpiknobmecbaaTl
namespace Go.Proofs.Ytfnpiknobmecbaa
open Go.ChangeShapes Go.WideShapes Go.ChangeAt Go.RowKit
set_option linter.unusedVariables false
set_option linter.unusedSimpArgs false


/-- A text of at most M bytes, as a value. -/
def QS (M : Nat) (u : Value) : Prop := ∃ s : ByteArray, u = .string s ∧ s.size ≤ M
theorem tv_of {M : Nat} : ∀ xs : List Value, (∀ u ∈ xs, QS M u) → ∃ ys, xs = tv ys ∧ ∀ s ∈ ys, s.size ≤ M
  | [], _ => ⟨[], rfl, by simp⟩
  | x :: xs, h => by
    obtain ⟨ys, e1, e2⟩ := tv_of xs (fun u hu => h u (by simp [hu]))
    obtain ⟨s, rfl, hs⟩ := h x (by simp)
    refine ⟨s :: ys, by rw [e1]; rfl, fun q hq => ?_⟩
    rcases List.mem_cons.1 hq with rfl | hq
    · exact hs
    · exact e2 q hq
theorem qs_tv {M : Nat} {ss : List ByteArray} (h : ∀ s ∈ ss, s.size ≤ M) : ∀ u ∈ tv ss, QS M u := by
  intro u hu
  simp only [tv, List.mem_map] at hu
  obtain ⟨s, hs, rfl⟩ := hu
  exact ⟨s, rfl, h s hs⟩
theorem tv_inj : ∀ {a b : List ByteArray}, tv a = tv b → a = b
  | [], [], _ => rfl
  | [], _ :: _, h => by simp [tv] at h
  | _ :: _, [], h => by simp [tv] at h
  | x :: a, y :: b, h => by
    simp only [tv, List.map_cons, List.cons.injEq, Value.string.injEq] at h
    rw [h.1, tv_inj (a := a) (b := b) h.2]
/-- A list of texts in a block of its own. -/
def OwnT (B : Nat) (w : World) (v : Value) (n : Nat) (ss : List ByteArray) (M : Nat) : Prop := OwnV B w 9 v n (tv ss) ∧ ∀ s ∈ ss, s.size ≤ M
theorem OwnT.below {B : Nat} {w w' : World} {v : Value} {n : Nat} {ss : List ByteArray} {M : Nat} (h : OwnT B w v n ss M) (hb : Below w.heap.size w w') : OwnT B w' v n ss M := ⟨h.1.below hb, h.2⟩
theorem OwnT.mono {B B' : Nat} {w : World} {v : Value} {n : Nat} {ss : List ByteArray} {M : Nat} (h : OwnT B w v n ss M) (hB : B' ≤ B) : OwnT B' w v n ss M := ⟨h.1.mono hB, h.2⟩
theorem OwnT.nil (B : Nat) (w : World) (M : Nat) : OwnT B w (.slice none 0 0) 0 [] M := ⟨OwnV.nil B w 9, by simp⟩
theorem OwnT.rd {B : Nat} {w : World} {ao : Option Addr} {n c : Nat} {ss : List ByteArray} {M : Nat} (h : OwnT B w (.slice ao n c) n ss M) (m : Nat) : RdT w ao (ss.take m) := by
  have := h.1.rd m
  rw [tv_take] at this
  exact this
theorem OwnT.shape {B : Nat} {w : World} {v : Value} {n : Nat} {ss : List ByteArray} {M : Nat} (h : OwnT B w v n ss M) : ∃ ao, v = .slice ao n ss.length ∧ (ao = none → ss.length = 0) := by
  obtain ⟨ao, h1, h2⟩ := h.1.shape
  rw [tv_len] at h1 h2
  exact ⟨ao, h1, h2⟩
theorem OwnT.le {B : Nat} {w : World} {v : Value} {n : Nat} {ss : List ByteArray} {M : Nat} (h : OwnT B w v n ss M) : n ≤ ss.length ∧ ss.length ≤ maxLen := by
  have := h.1.le
  rw [tv_len] at this
  exact this
theorem wpList_append_T {t : TypeId} (T : ElemTy Try.prog t 9 (.string ⟨#[]⟩) 16) (w : World) {ops : Array Oper} {rest : List Oper} {o : Oper} {a : Act} {Q : Exit → Act → World → Prop} (hgd : o.guard = none) (s x : Operand) (tx e' : TypeId) (hk : Try.prog.underlying tx = some (.slice e'))
    (ho : o.op = .call { callee := .builtin .append, args := #[s, x], argTypes := #[t, tx] }) (B : Nat) (v : Value) (n : Nat) (ss : List ByteArray) (M : Nat) (hs : a.eval s = v) (hown : OwnT B w v n ss M)
    (ao : Option Addr) (m c : Nat) (ns : List ByteArray) (hx : a.eval x = .slice ao m c) (hr : RdT w ao ns) (hl : ns.length = m) (hM : ∀ s ∈ ns, s.size ≤ M) (hb : n + m ≤ 8796093022000) (hB : B ≤ w.heap.size)
    (h : ∀ v' w' ys, Hid (OwnT B w' v' (n + m) ys M) → Hid (ys.take (n + m) = ss.take n ++ ns) → w.grownBy w' v.ownBlock → wpList Try.prog ops Q rest (a.put o.dst v') w') : wpList Try.prog ops Q (o :: rest) a w := by
  refine wpList_append_row T w hgd s x tx ho B v n (tv ss) hs hown.1 (.slice ao m c) m (tv ns) hx (src_of hk hr (by rw [tv_len]; exact hl) (tv_one ns)) (by omega) (by simp only [maxLen]; omega) hB ?_
  intro v' w' xs' h1 h2 h3 h4
  obtain ⟨ys, rfl, hys⟩ := tv_of (M := M) xs' (h4.out.1 (QS M) ⟨⟨#[]⟩, rfl, Nat.zero_le _⟩ (qs_tv hown.2) (qs_tv hM))
  refine h v' w' ys ⟨h1.out, hys⟩ ?_ h3
  have h2' := h2.out
  rw [tv_take, tv_take, ← tv_append] at h2'
  exact tv_inj h2'
theorem one_rdT (w : World) (s : ByteArray) : RdT (w.alloc (.cells #[.string s] 9)) (some ⟨w.heap.size, 0, none⟩) [s] := by
  refine .inr ⟨w.heap.size, 0, rfl, by simp, fun i hi => ?_⟩
  have : i = 0 := by simp [tv] at hi; omega
  subst this
  simp [go_sem, tv]
theorem emptyT (w : World) (M : Nat) : OwnT w.heap.size (w.alloc (.cells #[] 9)) (.slice (some ⟨w.heap.size, 0, none⟩) 0 0) 0 [] M :=
  ⟨.inr ⟨w.heap.size, rfl, Nat.le_refl _, heap_alloc_new _ _, Nat.le_refl _, Nat.zero_le _⟩, by simp⟩
def CopyPost (ss : List ByteArray) (M : Nat) (w : World) (e : Ending) (w' : World) : Prop :=
  ∃ v ys, e = .returned v ∧ Hid (OwnT w.heap.size w' v ss.length ys M ∧ ys.take ss.length = ss ∧ Below w.heap.size w w')
set_option maxRecDepth 100000 in
theorem lentN_any (a : Option Addr) (cap len : Nat) (ss : List ByteArray) (w : World) (hr : RdT w a ss) (hl : ss.length = len) (hm : len ≤ 8796093022000) :
    Calls Try.prog 31 #[.slice a len cap] w fun e w' => e = .returned (.slice (some ⟨w.heap.size, 0, none⟩) len (len + 3)) ∧ Hid (BlkV w' w.heap.size 9 (tv (lentT ss 3)) ∧ Below w.heap.size w w') := by
  have HX := lentT_any a cap len ss w hr hl hm
  have HX' : Hid (Calls Try.prog 49 #[.slice a len cap] w fun e w' => e = .returned (.slice (some ⟨w.heap.size, 0, none⟩) len (len + 3)) ∧ Hid (BlkV w' w.heap.size 9 (tv (lentT ss 3)) ∧ Below w.heap.size w w')) := HX
  clear HX hr hl
  go_enter Try.func31, Try.ntmps31
  go_wp2_with fail
  refine HX'.out.mono ?_
  rintro e w1 ⟨rfl, H1⟩
  go_wp2
  go_ret
  exact ⟨rfl, H1⟩
set_option maxRecDepth 100000 in
theorem sameN_yes (a b : Option Addr) (n c d : Nat) (ss : List ByteArray) (w : World) (hr : RdT w a ss) (hr' : RdT w b ss) (hl : ss.length = n) (hn : n ≤ 9223372036854775807) :
    Calls Try.prog 19 #[.slice a n c, .slice b n d] w fun e w' => e = .returned (.bool true) ∧ Hid (Below w.heap.size w w') := by
  have HX : Hid (Calls Try.prog 41 #[.slice a n c, .slice b n d] w fun e w' => e = .returned (.bool true) ∧ Hid (Below w.heap.size w w')) := sameT_yes a b n c d ss w hr hr' hl hn
  clear hr hr' hl
  go_enter Try.func19, Try.ntmps19
  go_wp2_with fail
  refine HX.out.mono ?_
  rintro e w1 ⟨rfl, H1⟩
  go_wp2
  go_ret
  exact ⟨rfl, H1⟩
set_option maxRecDepth 100000 in
theorem keptN_at (g : Nat) (a : Option Addr) (cap len c : Nat) (ss : List ByteArray) (w : World) (hl : ss.length = len) (hb : BlkV w g 9 (tv (lentT ss 3))) (hr : RdT w a ss) (hm : len ≤ 8796093022000) (he : c = len + 3) :
    Calls Try.prog 36 #[.slice (some ⟨g, 0, none⟩) len c, .slice a len cap] w fun e w' => e = .returned (.bool true) ∧ Hid (Below w.heap.size w w') := by
  have HX : Hid (Calls Try.prog 52 #[.slice (some ⟨g, 0, none⟩) len c, .slice a len cap] w fun e w' => e = .returned (.bool true) ∧ Hid (Below w.heap.size w w')) := keptT_at g a cap len c ss w hl hb hr hm he
  clear hl hb hr hm he
  go_enter Try.func36, Try.ntmps36
  go_wp2_with fail
  refine HX.out.mono ?_
  rintro e w1 ⟨rfl, H1⟩
  go_wp2
  go_ret
  exact ⟨rfl, H1⟩
end Go.Proofs.Ytfnpiknobmecbaa
