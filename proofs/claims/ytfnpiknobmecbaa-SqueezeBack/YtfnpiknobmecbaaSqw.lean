/- Names written one behind the other: what stands where. -/
import Derived.Test.YtfnpiknobmecbaaSqn
import Derived.Test.YtfnpiknobmecbaaSqv
import Derived.Test.YtfnpiknobmecbaaSqf
namespace Go.Proofs.Ytfnpiknobmecbaa
open Go.ChangeShapes Go.WideShapes Go.ChangeAt Go.RowKit Go.Maps
set_option linter.unusedVariables false
set_option linter.unusedSimpArgs false

/-- The names that were written, each with its place: each stands there, up to where the next one begins. -/
def EGood (tx : List Int) (E : List (Nat × Nmx)) : Prop := ∀ i (h : i < E.length), nck E[i].2.ss = 0 ∧ Stands tx E[i].1 E[i].1 E[i].2.ss (if h2 : i + 1 < E.length then E[i + 1].1 else tx.length)
theorem EGood.nil (tx : List Int) : EGood tx [] := fun i h => by simp at h
theorem EGood.add {tx : List Int} {E : List (Nat × Nmx)} (h : EGood tx E) (m : List Int) (x : Nmx) (hk : nck x.ss = 0) (hs : Stands (tx ++ m) tx.length tx.length x.ss (tx.length + m.length)) : EGood (tx ++ m) (E ++ [(tx.length, x)]) := by
  intro i hi
  by_cases e : i < E.length
  · obtain ⟨h1, h2⟩ := h i e
    have e1 : (E ++ [(tx.length, x)])[i] = E[i] := List.getElem_append_left e
    rw [e1]
    refine ⟨h1, ?_⟩
    have h3 := h2.more (m := m)
    have e2 : i + 1 < (E ++ [(tx.length, x)]).length := by simp; omega
    rw [dif_pos e2]
    by_cases e3 : i + 1 < E.length
    · rw [dif_pos e3] at h3
      rw [List.getElem_append_left e3]
      exact h3
    · rw [dif_neg e3] at h3
      rw [List.getElem_append_right (by omega)]
      simpa using h3
  · have ei : i = E.length := by simp at hi; omega
    subst ei
    have e1 : (E ++ [(tx.length, x)])[E.length] = (tx.length, x) := by simp
    rw [e1, dif_neg (by simp)]
    refine ⟨hk, ?_⟩
    rw [List.length_append]
    exact hs
theorem qown_short (pl : List (ByteArray × Nat)) : ∀ t : List ByteArray, qown pl t ≤ (qshort pl t).length
  | [] => by simp [qown, qshort]
  | s :: t => by
    have ih := qown_short pl t
    unfold qown qshort
    split
    · simp
    · simp; omega
theorem QInv.nil (tx : List Int) : QInv tx [] := fun k p h => by simp at h
/-- One name more. -/
theorem step_inv {tx : List Int} {pl : List (ByteArray × Nat)} {E : List (Nat × Nmx)} (hI : QInv tx pl) (hE : EGood tx E) (hl : pl.length ≤ tx.length) (x : Nmx) (back : Bool) (hk : nck x.ss = 0) :
    QInv (tx ++ qshort (if back then pl else []) x.ss) (qkeep pl tx.length (qown (if back then pl else []) x.ss) x.ss) ∧ EGood (tx ++ qshort (if back then pl else []) x.ss) (E ++ [(tx.length, x)]) ∧ (qkeep pl tx.length (qown (if back then pl else []) x.ss) x.ss).length ≤ (tx ++ qshort (if back then pl else []) x.ss).length := by
  have hI0 : QInv tx (if back then pl else []) := by cases back with | true => exact hI | false => exact QInv.nil tx
  have hlt : ∀ k p, (k, p) ∈ (if back then pl else []) → p < tx.length := fun k p h => (hI0 k p h).1
  have hok := labs_of hk
  have hz := (nck_small hk).1
  refine ⟨?_, ?_, ?_⟩
  · have := keep_inv (if back then pl else []) [] x.ss tx pl (qown (if back then pl else []) x.ss) (Nat.le_refl _) hI0 hok hz hI.more (fun k p h => Nat.le_of_lt (hlt k p h))
    simpa using this
  · refine hE.add _ x hk ?_
    have := short_stands (if back then pl else []) x.ss tx [] tx.length hI0 hok hlt
    simpa using this
  · have h1 := keep_len pl tx.length (qown (if back then pl else []) x.ss) x.ss
    have h2 := qown_short (if back then pl else []) x.ss
    simp; omega
theorem Stands.lt {l : List Int} {st p : Nat} {t : List ByteArray} {e : Nat} (h : Stands l st p t e) : p < l.length := by
  cases h <;> first | assumption | omega
/-- What was written is read. -/
theorem read_good {tx : List Int} {p : Nat} {ss : List ByteArray} {e : Nat} (hk : nck ss = 0) (h : Stands tx p p ss e) : qread tx p true = (ss, (e : Int), 0) := by
  rw [qread_in tx p true (Nat.le_of_lt h.lt), h.read none [] (by simpa using hk)]
  simp [qres]
theorem wnm_good {tx : List Int} {pl : List (ByteArray × Nat)} {ss : List ByteArray} (back : Bool) (hk : nck ss = 0) (ht : tx.length ≤ 60000) : wnm tx pl ss back = (0, tx ++ qshort (if back then pl else []) ss, qkeep pl tx.length (qown (if back then pl else []) ss) ss) ∧ 1 ≤ (qshort (if back then pl else []) ss).length ∧ (qshort (if back then pl else []) ss).length ≤ nsz ss ∧ (back = false → (qshort (if back then pl else []) ss).length = nsz ss) := by
  have h1 := qshort_len (if back then pl else []) ss (fun s hs => (chk_ok (labs_of hk s hs)).1)
  have h2 := (nck_small hk).1
  refine ⟨?_, h1.1, h1.2, ?_⟩
  · unfold wnm; rw [if_pos hk, if_neg (by omega)]
  · rintro rfl
    have := nby_len ss
    simp [qshort_nil]; omega
theorem tyI : ElemTy Try.prog 61 3 (.int .i64 0) 8 := ⟨Try.underlying61, by kernel_rfl, rfl⟩
theorem tyNs : ElemTy Try.prog 59 33 (.slice none 0 0) 24 := ⟨Try.underlying59, by kernel_rfl, rfl⟩
theorem OwnV.blkT {B : Nat} {w : World} {t : TypeId} {v : Value} {n : Nat} {xs : List Value} (h : OwnV B w t v n xs) : ∀ g, v.ownBlock = some g → w.heap[g]? = some (.cells xs.toArray t (0, 0)) := by
  intro g hg
  rcases h with ⟨rfl, _⟩ | ⟨g', rfl, _, hb, _⟩
  · cases hg
  · obtain rfl : g' = g := Option.some.inj hg
    exact hb
theorem OwnV.fr {B : Nat} {w w' : World} {t : TypeId} {v : Value} {n : Nat} {xs : List Value} (h : OwnV B w t v n xs) (hf : Fr B w w') (h5 : t ≠ 5) (h50 : t ≠ 50) : OwnV B w' t v n xs :=
  h.keep fun g e hl => hf.oth g _ t _ (h.blkT g e) h5 h50
theorem OwnV.row {B : Nat} {w w' : World} {t t' : TypeId} {v v' : Value} {n n' : Nat} {xs xs' : List Value} (h : OwnV B w t v n xs) (h' : OwnV B w t' v' n' xs') (hg : w.grownBy w' v'.ownBlock) (hne : t ≠ t') : OwnV B w' t v n xs :=
  h.keep fun g e hl => hg.block g hl (fun e2 => by
    have h1 := h.blkT g e
    have h2 := h'.blkT g e2.symm
    rw [h1] at h2
    injection h2 with h2
    injection h2 with _ h2 _
    exact hne h2)
theorem Wr.rowV {B : Nat} {w w' : World} {g : Nat} {tx : List Int} {pl : List (ByteArray × Nat)} {t : TypeId} {v : Value} {n : Nat} {xs : List Value} (h : Wr B w g tx pl) (ho : OwnV B w t v n xs) (hg : w.grownBy w' v.ownBlock) (h5 : t ≠ 5) (h50 : t ≠ 50) : Wr B w' g tx pl :=
  h.row hg (fun j e => ⟨_, t, _, ho.blkT j e, h5, h50⟩)
theorem one_rdV (w : World) (v : Value) (t : TypeId) : RdV (w.alloc (.cells #[v] t)) (some ⟨w.heap.size, 0, none⟩) [v] := by
  refine .inr ⟨w.heap.size, 0, rfl, by simp, fun i hi => ?_⟩
  have : i = 0 := by simp at hi; omega
  subst this
  simp [go_sem]
end Go.Proofs.Ytfnpiknobmecbaa
