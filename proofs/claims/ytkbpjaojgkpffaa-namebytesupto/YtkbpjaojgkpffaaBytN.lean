/- The statement's function about a name's bytes returns true and leaves what was there, where the bytes that the program makes of a name have at most so much room. -/
import Derived.Test.YtkbpjaojgkpffaaTextN
import Derived.Test.YtkbpjaojgkpffaaKb
import Derived.Test.YtkbpjaojgkpffaaNxr
namespace Go.Proofs.Ytkbpjaojgkpffaa
open Go.ChangeShapes Go.WideShapes Go.ChangeAt Go.RowKit
set_option linter.unusedVariables false
set_option linter.unusedSimpArgs false

/-- What the program makes of a name as bytes is what the document says, in a block of its own whose room is bounded. -/
def PBytes : Prop := ∀ (a : Option Addr) (n c : Nat) (ss : List ByteArray) (w : World), Nm w a n ss → Calls Try.prog 43 #[.slice a n c] w fun e w' => ∃ v ys, e = .returned (.tuple #[v, .int .i64 (nbytes ss).2]) ∧ Hid (Own w.heap.size w' v (nbytes ss).1.length ys ∧ ys.take (nbytes ss).1.length = (nbytes ss).1 ∧ Below w.heap.size w w' ∧ ys.length ≤ 140737488355328)

set_option maxRecDepth 200000 in
set_option maxRecDepth 100000 in
set_option maxHeartbeats 4000000 in
theorem bytes_mainN (a d : Option Addr) (n c1 len cap : Nat) (p : Int) (ss : List ByteArray) (zs : List Int) (w : World) (hs : Nm w a n ss) (hz : Rd w d zs) (hl : zs.length = len) (hm : len ≤ 1000000000) (hd : d = none → cap = 0) (hc : len ≤ cap ∧ cap ≤ 9223372036854775807)
    (K1 : Hid (Calls Try.prog 9 #[.slice a n c1] w fun e w' => e = .returned (.bool true) ∧ w' = w))
    (PB : Hid (∀ W g, BlkV W g 9 (tv (lentT ss 3)) → Calls Try.prog 43 #[.slice (some ⟨g, 0, none⟩) n (n + 3)] W fun e w' => ∃ v ys, e = .returned (.tuple #[v, .int .i64 (nbytes ss).2]) ∧ Hid (Own W.heap.size w' v (nbytes ss).1.length ys ∧ ys.take (nbytes ss).1.length = (nbytes ss).1 ∧ Below W.heap.size W w' ∧ ys.length ≤ 140737488355328))) :
    Calls Try.prog 5 #[.slice a n c1, .slice d len cap, .int .i64 p] w fun e w' => e = .returned (.bool true) ∧ Below w.heap.size w w' := by
  have hn := hs.n63
  have HN : Hid (Nm w a n ss ∧ Rd w d zs ∧ zs.length = len) := ⟨hs, hz, hl⟩
  have L1 : Hid (∀ W, Below w.heap.size w W → Calls Try.prog 10 #[.slice a n c1] W fun e w' => e = .returned (.slice (some ⟨W.heap.size, 0, none⟩) n (n + 3)) ∧ Hid (BlkV w' W.heap.size 9 (tv (lentT ss 3)) ∧ Below W.heap.size W w')) := fun W hW => lentN_any a c1 n ss W (hs.below hW).rd hs.len (by omega)
  have L2 : Hid (∀ W, Below w.heap.size w W → Calls Try.prog 42 #[.slice d len cap] W fun e w' => e = .returned (.slice (some ⟨W.heap.size, 0, none⟩) len (len + 3)) ∧ Hid (Blk w' W.heap.size (lent zs 3) ∧ w'.heap.size = W.heap.size + 1 ∧ Below W.heap.size W w')) := fun W hW => by
    subst hl
    exact lent_any d cap zs W (hz.below hW) hd (by omega)
  have hlen3 : (lent zs 3).length = len + 3 := by rw [lent_len _ _ (Nat.le_refl _), hl]
  have HL3 : Hid ((lent zs 3).length = len + 3 ∧ (lent zs 3).take len = zs) := ⟨hlen3, by rw [← hl]; exact lent_take zs 3⟩
  have QB : Hid (∀ W, Below w.heap.size w W → Calls Try.prog 44 #[.slice a n c1] W fun e w' => ∃ v ys, e = .returned (.tuple #[v, .int .i64 (nbytes ss).2]) ∧ Hid (Own W.heap.size w' v (nbytes ss).1.length ys ∧ ys.take (nbytes ss).1.length = (nbytes ss).1 ∧ Below W.heap.size W w')) := fun W hW => refnbytes_any a n c1 ss W (hs.below hW)
  have PR : Hid (∀ W g, Blk W g (lent zs 3) → Calls Try.prog 45 #[.slice (some ⟨g, 0, none⟩) len (len + 3), .int .i64 p] W (RPost (nread zs p) W)) := fun W g hb => by
    have ho : OwnA 0 W (some ⟨g, 0, none⟩) len (lent zs 3) := .inr ⟨g, rfl, Nat.zero_le _, hb, by omega, by simp only [maxLen]; omega⟩
    have hr := ho.rdTake len
    rw [HL3.out.2] at hr
    exact pread_any _ len (len + 3) zs p W hr hl (by omega) ⟨by omega, by omega⟩
  have QR : Hid (∀ W, Below w.heap.size w W → Calls Try.prog 46 #[.slice d len cap, .int .i64 p] W (RPost (nread zs p) W)) := fun W hW => refread_any d len cap zs p W (hz.below hW) hl hm hc
  have QK1 : Hid (∀ W g, Below w.heap.size w W → BlkV W g 9 (tv (lentT ss 3)) → Calls Try.prog 35 #[.slice (some ⟨g, 0, none⟩) n (n + 3), .slice a n c1] W fun e w' => e = .returned (.bool true) ∧ Hid (Below W.heap.size W w')) := fun W g hW hb => keptN_at g a c1 n (n + 3) ss W hs.len hb (hs.below hW).rd (by omega) rfl
  have QK2 : Hid (∀ W g, Below w.heap.size w W → Blk W g (lent zs 3) → Calls Try.prog 48 #[.slice (some ⟨g, 0, none⟩) len (len + 3), .slice d len cap] W fun e w' => e = .returned (.bool true) ∧ Below W.heap.size W w') := fun W g hW hb => kept_at g d cap len (len + 3) zs W hl hb (hz.below hW) hd (by omega) hc.1 rfl
  clear hs hz hl hlen3
  generalize (nbytes ss).1 = cs at *
  generalize (nbytes ss).2 = ce at *
  generalize (nread zs p).1 = ms at *
  unfold RPost at PR QR
  generalize nread zs p = rr at *
  obtain ⟨ms, to, re⟩ := rr
  dsimp only at PR QR
  generalize lent zs 3 = lz at *
  go_enter Try.func5, Try.ntmps5
  go_wp2_with fail
  refine K1.out.mono ?_
  rintro e w0 ⟨rfl, rfl⟩
  clear K1
  go_wp2_with fail
  refine (L1.out _ (Below.refl _ _)).mono ?_
  rintro e w1 ⟨rfl, H1⟩
  go_wp2_with fail
  refine (L2.out _ H1.out.2).mono ?_
  rintro e w2 ⟨rfl, H2⟩
  have F2 : Hid (Below w0.heap.size w0 w2 ∧ BlkV w2 w0.heap.size 9 (tv (lentT ss 3)) ∧ Blk w2 w1.heap.size lz ∧ w1.heap.size < w2.heap.size ∧ w0.heap.size ≤ w1.heap.size) := ⟨H1.out.2.trans (H2.out.2.2.mono H1.out.2.size), H1.out.1.below H2.out.2.2, H2.out.1, by have := H2.out.2.1; omega, H1.out.2.size⟩
  clear H1 H2 L1 L2
  go_wp2_with fail
  refine (PB.out _ _ F2.out.2.1).mono ?_
  rintro e w3 ⟨v3, ys3, rfl, H3⟩
  obtain ⟨ac, hv3, hac⟩ := H3.out.1.addr
  subst hv3
  have HAC : Hid (OwnA w2.heap.size w3 ac cs.length ys3) := hac
  clear hac
  go_wp2_with fail
  refine (QB.out _ (F2.out.1.trans (H3.out.2.2.1.mono F2.out.1.size))).mono ?_
  rintro e w4 ⟨v4, ys4, rfl, H4⟩
  obtain ⟨ad, hv4, had⟩ := H4.out.1.addr
  subst hv4
  have HAD : Hid (OwnA w3.heap.size w4 ad cs.length ys4) := had
  clear had
  have F4 : Hid (Below w2.heap.size w2 w4 ∧ OwnA w2.heap.size w4 ac cs.length ys3) := ⟨H3.out.2.2.1.trans (H4.out.2.2.mono H3.out.2.2.1.size), HAC.out.below H4.out.2.2⟩
  go_wp2_with fail
  refine (PR.out _ _ (F2.out.2.2.1.below F4.out.1)).mono ?_
  rintro e w5 ⟨v5, ys5, rfl, H5⟩
  obtain ⟨am, hv5, _⟩ := H5.out.1.shape
  subst hv5
  have F5 : Hid (Below w2.heap.size w2 w5) := F4.out.1.trans (H5.out.2.2.mono F4.out.1.size)
  go_wp2_with fail
  refine (QR.out _ (F2.out.1.trans (F5.out.mono F2.out.1.size))).mono ?_
  rintro e w6 ⟨v6, ys6, rfl, H6⟩
  obtain ⟨ao, hv6, _⟩ := H6.out.1.shape
  subst hv6
  have F6 : Hid (Below w2.heap.size w2 w6 ∧ OwnA w2.heap.size w6 ac cs.length ys3) := ⟨F5.out.trans (H6.out.2.2.mono F5.out.size), (F4.out.2.below H5.out.2.2).below H6.out.2.2⟩
  have hrl : ms.length ≤ 9223372036854775807 := by have := H6.out.1.le; simp only [maxLen] at this; omega
  have SB : Hid (Calls Try.prog 47 #[.slice ac cs.length ys3.length, .slice ad cs.length ys4.length] w6 fun e w' => e = .returned (.bool true) ∧ w' = w6) := by
    have r1 := F6.out.2.rdTake cs.length
    rw [H3.out.2.1] at r1
    have r2 := ((HAD.out.below H5.out.2.2).below H6.out.2.2).rdTake cs.length
    rw [H4.out.2.1] at r2
    exact same_yes ac ad cs.length _ _ cs w6 r1 r2 rfl
  have SN : Hid (Calls Try.prog 32 #[.slice am ms.length ys5.length, .slice ao ms.length ys6.length] w6 fun e w' => e = .returned (.bool true) ∧ Hid (Below w6.heap.size w6 w')) := by
    have r1 := (H5.out.1.below H6.out.2.2).rd ms.length
    rw [H5.out.2.1] at r1
    have r2 := H6.out.1.rd ms.length
    rw [H6.out.2.1] at r2
    exact sameN_yes am ao ms.length _ _ ms w6 r1 r2 rfl hrl
  have HCB : Hid (ys3.length ≤ 140737488355328) := H3.out.2.2.2
  clear H3 H4 H5 H6 HAC HAD F4 F5 PR QR PB QB
  go_wp2_with fail
  refine SB.out.mono ?_
  rintro e w7 ⟨rfl, rfl⟩
  go_wp2_with fail
  refine SN.out.mono ?_
  rintro e w8 ⟨rfl, B8⟩
  have F8 : Hid (Below w2.heap.size w2 w8 ∧ OwnA w2.heap.size w8 ac cs.length ys3) := ⟨F6.out.1.trans (B8.out.mono F6.out.1.size), F6.out.2.below B8.out⟩
  clear SB SN F6
  go_wp2_with fail
  refine (QK1.out _ _ (F2.out.1.trans (F8.out.1.mono F2.out.1.size)) (F2.out.2.1.below F8.out.1)).mono ?_
  rintro e w9 ⟨rfl, B9⟩
  have F9 : Hid (Below w2.heap.size w2 w9 ∧ OwnA w2.heap.size w9 ac cs.length ys3) := ⟨F8.out.1.trans (B9.out.mono F8.out.1.size), F8.out.2.below B9.out⟩
  clear F8
  go_wp2_with fail
  refine (QK2.out _ _ (F2.out.1.trans (F9.out.1.mono F2.out.1.size)) (F2.out.2.2.1.below F9.out.1)).mono ?_
  rintro e w10 ⟨rfl, hB10⟩
  have B10 : Hid (Below w9.heap.size w9 w10) := hB10
  clear hB10
  have F10 : Hid (Below w2.heap.size w2 w10 ∧ OwnA w2.heap.size w10 ac cs.length ys3) := ⟨F9.out.1.trans (B10.out.mono F9.out.1.size), F9.out.2.below B10.out⟩
  clear F9
  go_wp2_with fail
  have AP : Hid (Calls Try.prog 49 #[.slice (some ⟨w10.heap.size, 0, none⟩) 2 2] (w10.alloc (.cells #[.slice ac cs.length ys3.length, .slice (some ⟨w1.heap.size, 0, none⟩) len (len + 3)] 51)) fun e w' => e = .returned (.bool true) ∧ Below w0.heap.size (w10.alloc (.cells #[.slice ac cs.length ys3.length, .slice (some ⟨w1.heap.size, 0, none⟩) len (len + 3)] 51)) w') := by
    have hnb : Below w10.heap.size w10 (w10.alloc (.cells #[.slice ac cs.length ys3.length, .slice (some ⟨w1.heap.size, 0, none⟩) len (len + 3)] 51)) := (Below.refl _ _).alloc (Nat.le_refl _) _
    have hl3 := HL3.out.1
    have i2 : OwnA w1.heap.size w2 (some ⟨w1.heap.size, 0, none⟩) len lz := .inr ⟨_, rfl, Nat.le_refl _, F2.out.2.2.1, by omega, by simp only [maxLen]; omega⟩
    have i10 := i2.below F10.out.1
    have s01 : w0.heap.size ≤ w2.heap.size := F2.out.1.size
    have s210 := F10.out.1.size
    have hAp : Apart w10.heap.size [(ac, cs.length, ys3), (some ⟨w1.heap.size, 0, none⟩, len, lz)] := by
      refine Apart.of ?_ ?_
      · intro e he hb
        simp only [List.mem_cons, List.not_mem_nil, or_false] at he
        rcases he with rfl | rfl
        · have := (F10.out.2.lt _ hb).2; omega
        · have := (i10.lt _ hb).2; omega
      · simp only [List.pairwise_cons, List.mem_cons, List.not_mem_nil, or_false, forall_eq_or_imp, forall_eq, List.Pairwise.nil, and_true, false_implies, implies_true]
        intro g e1 e2
        exact i2.apart F10.out.2 (Nat.le_refl _) g e2 e1
    have hLi : Lie w0.heap.size (w10.alloc (.cells #[.slice ac cs.length ys3.length, .slice (some ⟨w1.heap.size, 0, none⟩) len (len + 3)] 51)) w10.heap.size [(ac, cs.length, ys3), (some ⟨w1.heap.size, 0, none⟩, len, lz)] := by
      refine Lie.of (by simp) ?_ ?_
      · intro j hj
        have hj' : j = 0 ∨ j = 1 := by simp at hj; omega
        rcases hj' with rfl | rfl
        · simp [go_sem]
        · simp [go_sem, hl3]
      · intro e he
        simp only [List.mem_cons, List.not_mem_nil, or_false] at he
        rcases he with rfl | rfl
        · exact (F10.out.2.below hnb).mono s01
        · exact (i10.below hnb).mono F2.out.2.2.2.2
    refine apart_wide w0.heap.size w10.heap.size 2 2 _ _ rfl (by omega) (by omega) (by have := hnb.size; omega) (by omega) hLi hAp ?_
    intro k hk
    have hk' : k = 0 ∨ k = 1 := by simp at hk; omega
    rcases hk' with rfl | rfl
    · exact HCB.out
    · show lz.length ≤ _; omega
  have HW : Hid (Below w0.heap.size w0 (w10.alloc (.cells #[.slice ac cs.length ys3.length, .slice (some ⟨w1.heap.size, 0, none⟩) len (len + 3)] 51))) := by
    have h := F2.out.1.trans (F10.out.1.mono F2.out.1.size)
    exact h.alloc h.size _
  generalize w10.alloc (.cells #[.slice ac cs.length ys3.length, .slice (some ⟨w1.heap.size, 0, none⟩) len (len + 3)] 51) = wq at *
  refine AP.out.mono ?_
  rintro e w11 ⟨rfl, hB11⟩
  have B11 : Hid (Below w0.heap.size wq w11) := hB11
  clear hB11
  go_wp2_with fail
  go_ret
  exact ⟨rfl, HW.out.trans B11.out⟩

set_option maxRecDepth 100000 in
set_option maxHeartbeats 4000000 in
theorem bytes_walkN (PB : PBytes) (a d : Option Addr) (n c1 len cap : Nat) (p : Int) (ss : List ByteArray) (zs : List Int) (w : World) (hs : Arg w a n ss) (hz : Rd w d zs) (hl : zs.length = len) (hm : len ≤ 1000000000) (hd : d = none → cap = 0) (hc : len ≤ cap ∧ cap ≤ 9223372036854775807) :
    Calls Try.prog 5 #[.slice a n c1, .slice d len cap, .int .i64 p] w fun e w' => e = .returned (.bool true) ∧ Below w.heap.size w w' := by
  have K1 := hs.few c1
  by_cases h1 : fewB ss
  · replace K1 : Hid (Calls Try.prog 9 #[.slice a n c1] w fun e w' => e = .returned (.bool true) ∧ w' = w) := by rw [decide_eq_true h1] at K1; exact K1
    have hN := few_nm hs.rd hs.len h1
    exact bytes_mainN a d n c1 len cap p ss zs w hN hz hl hm hd hc K1 (fun W g hb => PB _ n _ ss W (lent_nm hb hN.len hN.sz))
  · replace K1 : Hid (Calls Try.prog 9 #[.slice a n c1] w fun e w' => e = .returned (.bool false) ∧ w' = w) := by rw [decide_eq_false h1] at K1; exact K1
    clear hs hz hl hd PB h1
    go_enter Try.func5, Try.ntmps5
    go_wp2_with fail
    refine K1.out.mono ?_
    rintro e w1 ⟨rfl, rfl⟩
    go_wp2
    go_ret
    exact ⟨rfl, Below.refl _ _⟩
end Go.Proofs.Ytkbpjaojgkpffaa
