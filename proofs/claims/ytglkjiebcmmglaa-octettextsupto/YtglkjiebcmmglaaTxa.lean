/- What the lists that were lent are joined to; digits read, the room told. -/
import Derived.Test.YtglkjiebcmmglaaIns
import Derived.Test.YtglkjiebcmmglaaApart2
import Derived.Test.YtglkjiebcmmglaaEx
namespace Go.Proofs.Ytglkjiebcmmglaa
open Go.ChangeShapes Go.WideShapes Go.ChangeAt Go.RowKit
set_option linter.unusedVariables false
set_option linter.unusedSimpArgs false

/-- The lists that were lent are the pieces. -/
def Fits (es : List Elem) (ps : List Piece) : Prop := ∀ j (h : j < es.length) (h' : j < ps.length), es[j].2.1 = ps[j].2.2.length ∧ es[j].2.2 = lent ps[j].2.2 3
theorem Fits.push {es : List Elem} {ps : List Piece} (h : Fits es ps) (hk : es.length < ps.length) (ao : Option Addr) : Fits (es ++ [(ao, ps[es.length].2.2.length, lent ps[es.length].2.2 3)]) ps := by
  intro j hj hj'
  by_cases e : j < es.length
  · rw [List.getElem_append_left e]; exact h j e hj'
  · have e2 : j = es.length := by simp at hj; omega
    subst e2
    rw [List.getElem_append_right (Nat.le_refl _)]
    simp

/-- The pieces as they were lent. -/
def qs (es : List Elem) (ps : List Piece) : List Piece := List.zipWith (fun e p => (e.1, e.2.2.length, p.2.2)) es ps
theorem qs_len (es : List Elem) (ps : List Piece) (h : es.length = ps.length) : (qs es ps).length = ps.length := by simp [qs, h]
theorem qs_flat : ∀ (es : List Elem) (ps : List Piece), es.length = ps.length → (qs es ps).flatMap (·.2.2) = ps.flatMap (·.2.2)
  | [], [], _ => rfl
  | e :: es, p :: ps, h => by
    have := qs_flat es ps (by simpa using h)
    unfold qs at this ⊢
    rw [List.zipWith_cons_cons, List.flatMap_cons, List.flatMap_cons, this]
  | [], _ :: _, h => by simp at h
  | _ :: _, [], h => by simp at h
theorem jn_all (ps : List Piece) : jn ps ps.length = ps.flatMap (·.2.2) := by unfold jn; rw [List.take_length]
theorem jn_qs (es : List Elem) (ps : List Piece) (h : es.length = ps.length) : jn (qs es ps) (qs es ps).length = jn ps ps.length := by rw [jn_all, jn_all, qs_flat es ps h]

theorem row_slice {B : Nat} {w : World} {e z : Nat} {v : Value} {n : Nat} {bs : List Value} (h : w.ownsRow B e z v n bs) : (v = .slice none 0 0 ∧ n = 0) ∨ ∃ g c, v = .slice (some ⟨g, 0, none⟩) n c ∧ n ≤ c := by
  rcases h.2 with h | ⟨g, cap, cur, h1, _, _, h2, _⟩
  · exact .inl h
  · exact .inr ⟨g, cap, h1, h2⟩

theorem join_ins (B N : Nat) (v : Value) (es : List Elem) (ps : List Piece) (w : World) (h : Ins B w v es) (hN : es.length = N) (hp : ps.length = N) (hf : Fits es ps) (hNb : N ≤ 1000) (hs : (jn ps ps.length).length ≤ 140737488355328) :
    Calls Try.prog 20 #[v] w fun e w' => e = .returned (.slice (some ⟨w.heap.size, 0, none⟩) (jn ps ps.length).length (jn ps ps.length).length) ∧ Hid (Blk w' w.heap.size (jn ps ps.length) ∧ Below w.heap.size w w') := by
  have hl : es.length = ps.length := by omega
  rcases row_slice h.row with ⟨rfl, h0⟩ | ⟨L, C, rfl, hC⟩
  · have e0 : ps = [] := List.eq_nil_of_length_eq_zero (by omega)
    subst e0
    refine (join_nil w).mono ?_
    rintro e w' ⟨rfl, rfl⟩
    exact ⟨rfl, ⟨by rw [heap_alloc_new]; rfl, by intro z hz; cases hz⟩, (Below.refl _ _).alloc (Nat.le_refl _) _⟩
  · obtain ⟨hlie, _, _, _⟩ := h.lie
    have hq := jn_qs es ps hl
    have hql := qs_len es ps hl
    have := join_ex L N C (qs es ps) w (by rw [hql, hp]) ⟨hlie.1, fun k hk => ?_⟩ (by omega) hNb (by rw [hq]; exact hs)
    · rw [hq] at this
      rw [hN]
      exact this
    · have hke : k < es.length := by rw [hql] at hk; omega
      have hkp : k < ps.length := by rw [hql] at hk; exact hk
      have e1 : (qs es ps)[k] = (es[k].1, es[k].2.2.length, ps[k].2.2) := by simp [qs]
      obtain ⟨hc, ho⟩ := hlie.2 k hke
      obtain ⟨f1, f2⟩ := hf k hke hkp
      rw [e1]
      refine ⟨by rw [hc, f1], ?_, ho.nil⟩
      have := ho.rdTake ps[k].2.2.length
      rw [f2, lent_take] at this
      exact this

/-- What digits are, the block just as long. -/
def UxPost (s : ByteArray) (w : World) (e : Ending) (w' : World) : Prop :=
  ∃ ao, e = .returned (.tuple #[.slice ao (uhL s).length (uhL s).length, .int .i64 (uhE s)]) ∧ Hid (OwnA w.heap.size w' ao (uhL s).length (uhL s) ∧ Below w.heap.size w w')
theorem uhL_len (s : ByteArray) : (uhL s).length ≤ 131070 := by
  unfold uhL
  split
  · rename_i h; rw [prs_len]; omega
  · simp
theorem ux_any (s : ByteArray) (w : World) (hs : s.size ≤ 9223372036854775807) : Calls Try.prog 22 #[.string s] w (UxPost s w) := by
  have none_of : ∀ {e : Ending} {w' : World}, uhL s = [] → e = .returned (.tuple #[.slice none 0 0, .int .i64 (uhE s)]) → Below w.heap.size w w' → UxPost s w e w' := by
    intro e w' h1 he hb
    refine ⟨none, by rw [h1]; exact he, .inl ⟨rfl, by rw [h1]; rfl, h1⟩, hb⟩
  by_cases h : 131070 < s.size
  · refine (unhex_long s w h hs).mono fun e w' h' => none_of (by unfold uhL; rw [if_neg (by omega)]) ?_ (by rw [h'.2]; exact Below.refl _ _)
    rw [h'.1]; unfold uhE; rw [if_pos h]
  have bad : ¬ (s.size % 2 = 0 ∧ (∀ k, k < s.size / 2 → 0 ≤ wv ((nums s).getD (2 * k) 0) ∧ 0 ≤ wv ((nums s).getD (2 * k + 1) 0))) → uhL s = [] ∧ uhE s = 110 := fun hno =>
    ⟨by unfold uhL; rw [if_neg (fun h => hno h.2)], by unfold uhE; rw [if_neg (by omega), if_neg hno]⟩
  by_cases ho : s.size % 2 = 0
  · refine (unhex_exe s (s.size / 2) w (by omega) (by omega)).mono fun e w' h' => ?_
    rcases h' with ⟨⟨k, hk, hn⟩, he, hb⟩ | ⟨hall, he, h1, h2⟩
    · obtain ⟨q1, q2⟩ := bad (fun hx => hn (hx.2 k hk))
      exact none_of q1 (by rw [he, q2]) hb
    · have e1 : uhL s = prs (nums s) (s.size / 2) := by unfold uhL; rw [if_pos ⟨by omega, ho, hall⟩]
      have e2 : uhE s = 0 := by unfold uhE; rw [if_neg (by omega), if_pos ⟨ho, hall⟩]
      have e3 : (uhL s).length = s.size / 2 := by rw [e1, prs_len]
      refine ⟨some ⟨w.heap.size, 0, none⟩, by rw [e3, e2]; exact he, .inr ⟨w.heap.size, rfl, Nat.le_refl _, by rw [e1]; exact h1, Nat.le_refl _, ?_⟩, h2⟩
      have := uhL_len s
      simp only [maxLen]; omega
  · obtain ⟨q1, q2⟩ := bad (fun hx => ho hx.1)
    exact (unhex_odd s w (by omega) (by omega)).mono fun e w' h' => none_of q1 (by rw [h'.1, q2]) (by rw [h'.2]; exact Below.refl _ _)
end Go.Proofs.Ytglkjiebcmmglaa
