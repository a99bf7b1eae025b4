/- The statement's function about how names stand to one another returns true and leaves what was there. -/
import Derived.Test.YtkbpjaojgkpffaaTextN
namespace Go.Proofs.Ytkbpjaojgkpffaa
open Go.ChangeShapes Go.WideShapes Go.ChangeAt Go.RowKit
set_option linter.unusedVariables false
set_option linter.unusedSimpArgs false

set_option maxRecDepth 100000 in
set_option maxHeartbeats 1000000 in
theorem overT_blk2 (g n c : Nat) (ss : List ByteArray) (w : World) (hb : BlkV w g 9 (tv ss)) (hl : ss.length = c) (hn : n ≤ c) (hm : c ≤ maxLen) (hz : ∀ s ∈ ss, s.size ≤ 2000000000000) :
    Calls Try.prog 34 #[.slice (some ⟨g, 0, none⟩) n c] w fun e w' => e = .returned (.tuple #[]) ∧ Hid (BlkV w' g 9 (tv (ss.map bang)) ∧ w.grownBy w' (some g) ∧ w'.heap.size = w.heap.size) := by
  have HB : Hid (BlkV w g 9 (tv ss)) := hb
  have HL : Hid (ss.length = c) := hl
  clear hb hl
  unfold maxLen at hm
  go_enter Try.func34, Try.ntmps34
  go_wp2
  go_loopw [3] (fun i wr => ∃ k : Nat, k ≤ c ∧ i = .int .i64 k ∧ Hid (BlkV wr g 9 (tv (overT ss k)) ∧ w.grownBy wr (some g) ∧ wr.heap.size = w.heap.size)) (fun i _ => c - (intOf i).toNat)
  case atStart => exact ⟨0, by omega, rfl, by simpa [overT] using HB.out, World.grownBy.refl _ _, rfl⟩
  case round =>
    obtain ⟨k, hk, rfl, HW⟩ := hrel
    by_cases hlt : k < c
    · have hks : k < ss.length := by rw [HL.out]; exact hlt
      have hc := HW.out.1.cell k (by rw [tv_len, overT_len]; exact hks)
      have hat := overT_at ss k hks
      rw [List.getElem?_eq_getElem (by rw [tv_len, overT_len]; exact hks)] at hat
      rw [Option.some.inj hat] at hc
      have hf := HW.out.1.frozen k
      have h1 : (k : Int) < (c : Int) := by omega
      have HS : Hid (BlkV (wr.setCell ⟨g, k, none⟩ (.string (bang ss[k]))) g 9 (tv (overT ss (k + 1)))) := by
        have := HW.out.1.stored k (.string (bang ss[k]))
        rw [overT_step ss k hks] at this
        exact this
      clear hat
      have hsk : ss[k].size ≤ 2000000000000 := hz _ (List.getElem_mem hks)
      generalize ss[k] = s at *
      go_wp2
      refine ⟨⟨k + 1, by omega, by go_num, HS.out, ?_, ?_⟩, by simp [intOf]; omega⟩
      · obtain ⟨_, hG, hz⟩ := HW.out
        exact ⟨hG.os, hG.tape, hG.output, by rw [← hz]; simp [World.setCell], fun j hj hne => (Below.heap_setCell _ _ _ j (fun e => hne (by rw [e]))).trans (hG.block j hj hne)⟩
      · rw [← HW.out.2.2]; simp [World.setCell]
    · obtain rfl : k = c := by omega
      go_wp2
      go_end0
      have h := HW.out
      have e : overT ss k = ss.map bang := by
        unfold overT
        rw [List.take_of_length_le (by rw [HL.out]; exact Nat.le_refl _), List.drop_eq_nil_of_le (by rw [HL.out]; exact Nat.le_refl _), List.append_nil]
      rw [e] at h
      exact ⟨rfl, h⟩

/-- A list of texts in some block of its own. -/
def OwnE (B : Nat) (w : World) (v : Value) (M : Nat) : Prop := ∃ n ys, OwnT B w v n ys M
theorem OwnE.below {B : Nat} {w w' : World} {v : Value} {M : Nat} (h : OwnE B w v M) (hb : Below w.heap.size w w') : OwnE B w' v M := by
  obtain ⟨n, ys, h⟩ := h
  exact ⟨n, ys, h.below hb⟩
theorem overE (B : Nat) (v : Value) (M : Nat) (w : World) (h : OwnE B w v M) (hM : M ≤ 2000000000000) (hB : B ≤ w.heap.size) :
    Calls Try.prog 34 #[v] w fun e w' => e = .returned (.tuple #[]) ∧ Hid ((∀ v', OwnE B w v' M → OwnE B w' v' (M + 1)) ∧ Below B w w' ∧ ∀ g t xs, t ≠ 9 → BlkV w g t xs → BlkV w' g t xs) := by
  obtain ⟨n, ys, hO, hz⟩ := h
  rcases hO with ⟨rfl, _, _⟩ | ⟨g, rfl, hBg, hb, hn, hm⟩
  · refine (overT_nil w).mono ?_
    rintro e w' ⟨rfl, rfl⟩
    refine ⟨rfl, fun v' hv' => ?_, Below.refl _ _, fun g t xs _ h => h⟩
    obtain ⟨n', ys', h1, h2⟩ := hv'
    exact ⟨n', ys', h1, fun s hs => by have := h2 s hs; omega⟩
  · rw [tv_len] at hn hm ⊢
    refine (overT_blk2 g n ys.length ys w hb rfl hn hm (fun s hs => by have := hz s hs; omega)).mono ?_
    rintro e w' ⟨rfl, H⟩
    refine ⟨rfl, fun v' hv' => ?_, (Below.refl B w).grown H.out.2.1 hB (fun q hq => by have := Option.some.inj hq; omega), fun g' t xs ht hx => ?_⟩
    · obtain ⟨n', ys', h1, h2⟩ := hv'
      rcases h1 with h0 | ⟨g', rfl, hB', hb', hn', hm'⟩
      · exact ⟨n', ys', .inl h0, fun s hs => by have := h2 s hs; omega⟩
      · by_cases e : g' = g
        · subst e
          have he : tv ys' = tv ys := by
            have q1 : w.heap[g']? = _ := hb'
            have q2 : w.heap[g']? = _ := hb
            rw [q1] at q2
            injection q2 with q2
            injection q2 with q2 _ _
            simpa using q2
          have he2 := tv_inj he
          subst he2
          have hl : (tv (ys'.map bang)).length = (tv ys').length := by rw [tv_len, tv_len, List.length_map]
          refine ⟨n', ys'.map bang, .inr ⟨g', by rw [hl], hB', H.out.1, by rw [hl]; exact hn', by rw [hl]; exact hm'⟩, fun s hs => ?_⟩
          simp only [List.mem_map] at hs
          obtain ⟨q, hq, rfl⟩ := hs
          have := h2 q hq
          show (q ++ (⟨#[33]⟩ : ByteArray)).size ≤ _
          rw [ByteArray.size_append]
          show _ + 1 ≤ _
          omega
        · exact ⟨n', ys', .inr ⟨g', rfl, hB', hb'.same (H.out.2.1.block g' hb'.lt (fun e2 => e (Option.some.inj e2))), hn', hm'⟩, fun s hs => by have := h2 s hs; omega⟩
    · refine hx.same (H.out.2.1.block g' hx.lt (fun e2 => ?_))
      have e3 : g' = g := Option.some.inj e2
      subst e3
      have q1 : w.heap[g']? = _ := hb
      have q2 : w.heap[g']? = _ := hx
      rw [q1] at q2
      injection q2 with q2
      injection q2 with _ q2 _
      exact ht q2.symm

set_option maxRecDepth 200000 in
set_option maxRecDepth 100000 in
set_option maxHeartbeats 8000000 in
theorem calls_mainN (a b : Option Addr) (n m c1 c2 : Nat) (d : Int) (ss ts : List ByteArray) (w : World) (hs : Nm w a n ss) (hg : Nm w b m ts) (hc : n ≤ c1 ∧ c1 ≤ 9223372036854775807) (K1 : Hid (Calls Try.prog 9 #[.slice a n c1] w fun e w' => e = .returned (.bool true) ∧ w' = w)) (K2 : Hid (Calls Try.prog 9 #[.slice b m c2] w fun e w' => e = .returned (.bool true) ∧ w' = w)) :
    Calls Try.prog 3 #[.slice a n c1, .slice b m c2, .int .i64 d] w fun e w' => e = .returned (.bool true) ∧ Below w.heap.size w w' := by
  have hn := hs.n63
  have hm := hg.n63
  have HN : Hid (Nm w a n ss ∧ Nm w b m ts) := ⟨hs, hg⟩
  have L1 : Hid (∀ W, Below w.heap.size w W → Calls Try.prog 10 #[.slice a n c1] W fun e w' => e = .returned (.slice (some ⟨W.heap.size, 0, none⟩) n (n + 3)) ∧ Hid (BlkV w' W.heap.size 9 (tv (lentT ss 3)) ∧ Below W.heap.size W w')) := fun W hW => lentN_any a c1 n ss W (hs.below hW).rd hs.len (by omega)
  have L2 : Hid (∀ W, Below w.heap.size w W → Calls Try.prog 10 #[.slice b m c2] W fun e w' => e = .returned (.slice (some ⟨W.heap.size, 0, none⟩) m (m + 3)) ∧ Hid (BlkV w' W.heap.size 9 (tv (lentT ts 3)) ∧ Below W.heap.size W w')) := fun W hW => lentN_any b c2 m ts W (hg.below hW).rd hg.len (by omega)
  have NX : ∀ W g, BlkV W g 9 (tv (lentT ss 3)) → Nm W (some ⟨g, 0, none⟩) n ss := fun W g h => lent_nm h hs.len hs.sz
  have NY : ∀ W g, BlkV W g 9 (tv (lentT ts 3)) → Nm W (some ⟨g, 0, none⟩) m ts := fun W g h => lent_nm h hg.len hg.sz
  have Q5 : Hid (∀ (W : World) (g g' : Nat), BlkV W g 9 (tv (lentT ss 3)) → Calls Try.prog 11 #[.slice (some ⟨g, 0, none⟩) n (n + 3)] W fun e w' => e = .returned (.int .i64 (nck ss)) ∧ Hid (Below W.heap.size W w')) := fun W g g' hx => pcheck_any _ n _ ss W (NX W g hx)
  have Q6 : Hid (∀ (W : World) (g g' : Nat), Below w.heap.size w W → Calls Try.prog 12 #[.slice a n c1] W fun e w' => e = .returned (.int .i64 (nck ss)) ∧ Hid (Below W.heap.size W w')) := fun W g g' hW => (nm_check c1 (hs.below hW)).mono (fun e w' h => ⟨h.1, by rw [h.2]; exact Below.refl _ _⟩)
  have Q7 : Hid (∀ (W : World) (g g' : Nat), BlkV W g 9 (tv (lentT ss 3)) → Calls Try.prog 13 #[.slice (some ⟨g, 0, none⟩) n (n + 3)] W fun e w' => e = .returned (.int .i64 (nsz ss)) ∧ Hid (Below W.heap.size W w')) := fun W g g' hx => psize_any _ n _ ss W (NX W g hx)
  have Q8 : Hid (∀ (W : World) (g g' : Nat), Below w.heap.size w W → Calls Try.prog 14 #[.slice a n c1] W fun e w' => e = .returned (.int .i64 (nsz ss)) ∧ Hid (Below W.heap.size W w')) := fun W g g' hW => (refsize_any a n c1 ss W (hs.below hW).rd hs.len (by have := hs.sz; omega)).mono (fun e w' h => ⟨h.1, by rw [h.2]; exact Below.refl _ _⟩)
  have Q9 : Hid (∀ (W : World) (g g' : Nat), BlkV W g 9 (tv (lentT ss 3)) → BlkV W g' 9 (tv (lentT ts 3)) → Calls Try.prog 15 #[.slice (some ⟨g, 0, none⟩) n (n + 3), .slice (some ⟨g', 0, none⟩) m (m + 3)] W fun e w' => e = .returned (.bool (nsame ss ts)) ∧ Hid (Below W.heap.size W w')) := fun W g g' hx hy => psame_any _ _ n m _ _ ss ts W (NX W g hx) (NY W g' hy)
  have Q10 : Hid (∀ (W : World) (g g' : Nat), Below w.heap.size w W → Calls Try.prog 16 #[.slice a n c1, .slice b m c2] W fun e w' => e = .returned (.bool (nsame ss ts)) ∧ Hid (Below W.heap.size W w')) := fun W g g' hW => refsame_any a b n m c1 c2 ss ts W (hs.below hW) (hg.below hW)
  have Q11 : Hid (∀ (W : World) (g g' : Nat), BlkV W g 9 (tv (lentT ss 3)) → BlkV W g' 9 (tv (lentT ts 3)) → Calls Try.prog 17 #[.slice (some ⟨g, 0, none⟩) n (n + 3), .slice (some ⟨g', 0, none⟩) m (m + 3)] W fun e w' => e = .returned (.int .i64 (ncmp ss ts)) ∧ Hid (Below W.heap.size W w')) := fun W g g' hx hy => pcompare_any _ _ n m _ _ ss ts W (NX W g hx) (NY W g' hy)
  have Q12 : Hid (∀ (W : World) (g g' : Nat), Below w.heap.size w W → Calls Try.prog 18 #[.slice a n c1, .slice b m c2] W fun e w' => e = .returned (.int .i64 (ncmp ss ts)) ∧ Hid (Below W.heap.size W w')) := fun W g g' hW => refcompare_any a b n m c1 c2 ss ts W (hs.below hW).rd (hg.below hW).rd hs.len hg.len hs.n63 hg.n63 (fun s h => by have := hs.mem s h; omega) (fun s h => by have := hg.mem s h; omega)
  have Q13 : Hid (∀ (W : World) (g g' : Nat), BlkV W g 9 (tv (lentT ss 3)) → BlkV W g' 9 (tv (lentT ts 3)) → Calls Try.prog 19 #[.slice (some ⟨g, 0, none⟩) n (n + 3), .slice (some ⟨g', 0, none⟩) m (m + 3)] W fun e w' => e = .returned (.bool (nunder ss ts)) ∧ Hid (Below W.heap.size W w')) := fun W g g' hx hy => punder_any _ _ n m _ _ ss ts W (NX W g hx) (NY W g' hy)
  have Q14 : Hid (∀ (W : World) (g g' : Nat), Below w.heap.size w W → Calls Try.prog 20 #[.slice a n c1, .slice b m c2] W fun e w' => e = .returned (.bool (nunder ss ts)) ∧ Hid (Below W.heap.size W w')) := fun W g g' hW => refunder_any a b n m c1 c2 ss ts W (hs.below hW) (hg.below hW)
  have Q15 : Hid (∀ (W : World) (g g' : Nat), BlkV W g 9 (tv (lentT ss 3)) → BlkV W g' 9 (tv (lentT ts 3)) → Calls Try.prog 21 #[.slice (some ⟨g, 0, none⟩) n (n + 3), .slice (some ⟨g', 0, none⟩) m (m + 3)] W fun e w' => e = .returned (.int .i64 (ncom ss ts)) ∧ Hid (Below W.heap.size W w')) := fun W g g' hx hy => pcommon_any _ _ n m _ _ ss ts W (NX W g hx) (NY W g' hy)
  have Q16 : Hid (∀ (W : World) (g g' : Nat), Below w.heap.size w W → Calls Try.prog 22 #[.slice a n c1, .slice b m c2] W fun e w' => e = .returned (.int .i64 (ncom ss ts)) ∧ Hid (Below W.heap.size W w')) := fun W g g' hW => nm_common c1 c2 (hs.below hW) (hg.below hW)
  have Q17 : Hid (∀ (W : World) (g g' : Nat), BlkV W g 9 (tv (lentT ss 3)) → Calls Try.prog 23 #[.slice (some ⟨g, 0, none⟩) n (n + 3)] W (NPost (nparent ss).1 (nparent ss).2 W)) := fun W g g' hx => pparent_any _ n _ ss W (NX W g hx) ⟨by omega, by omega⟩
  have Q18 : Hid (∀ (W : World) (g g' : Nat), Below w.heap.size w W → Calls Try.prog 24 #[.slice a n c1] W (NPost (nparent ss).1 (nparent ss).2 W)) := fun W g g' hW => refparent_any a n c1 ss W (hs.below hW) hc
  have Q19 : Hid (∀ (W : World) (g g' : Nat), BlkV W g 9 (tv (lentT ss 3)) → Calls Try.prog 25 #[.slice (some ⟨g, 0, none⟩) n (n + 3), .int .i64 d] W (NPost (nabove ss d).1 (nabove ss d).2 W)) := fun W g g' hx => pabove_any _ n _ d ss W (NX W g hx) ⟨by omega, by omega⟩
  have Q20 : Hid (∀ (W : World) (g g' : Nat), Below w.heap.size w W → Calls Try.prog 26 #[.slice a n c1, .int .i64 d] W (NPost (nabove ss d).1 (nabove ss d).2 W)) := fun W g g' hW => refabove_any a n c1 d ss W (hs.below hW) hc
  have Q21 : Hid (∀ (W : World) (g g' : Nat), BlkV W g 9 (tv (lentT ss 3)) → BlkV W g' 9 (tv (lentT ts 3)) → Calls Try.prog 27 #[.slice (some ⟨g, 0, none⟩) n (n + 3), .slice (some ⟨g', 0, none⟩) m (m + 3)] W (NPost (njoin ss ts).1 (njoin ss ts).2 W)) := fun W g g' hx hy => pjoin_any _ _ n m _ _ ss ts W (NX W g hx) (NY W g' hy)
  have Q22 : Hid (∀ (W : World) (g g' : Nat), Below w.heap.size w W → Calls Try.prog 28 #[.slice a n c1, .slice b m c2] W (NPost (njoin ss ts).1 (njoin ss ts).2 W)) := fun W g g' hW => refjoin_any a b n m c1 c2 ss ts W (hs.below hW) (hg.below hW)
  have Q23 : Hid (∀ (W : World) (g g' : Nat), BlkV W g 9 (tv (lentT ss 3)) → Calls Try.prog 29 #[.slice (some ⟨g, 0, none⟩) n (n + 3)] W (NPost (njoin [⟨#[42]⟩] ss).1 (njoin [⟨#[42]⟩] ss).2 W)) := fun W g g' hx => pwild_any _ n _ ss W (NX W g hx)
  have Q24 : Hid (∀ W : World, Below w.heap.size w W → Calls Try.prog 28 #[.slice (some ⟨W.heap.size, 0, none⟩) 1 1, .slice a n c1] (W.alloc (.cells #[.string ⟨#[42]⟩] 9)) fun e w' => ∃ v ys, e = .returned (.tuple #[v, .int .i64 (njoin [⟨#[42]⟩] ss).2]) ∧ Hid (OwnT W.heap.size w' v (njoin [⟨#[42]⟩] ss).1.length ys 1000000000000 ∧ ys.take (njoin [⟨#[42]⟩] ss).1.length = (njoin [⟨#[42]⟩] ss).1 ∧ Below W.heap.size W w')) := fun W hW => by
    have hb : Below W.heap.size W (W.alloc (.cells #[.string ⟨#[42]⟩] 9)) := (Below.refl _ _).alloc (Nat.le_refl _) _
    have hl : Nm (W.alloc (.cells #[.string ⟨#[42]⟩] 9)) (some ⟨W.heap.size, 0, none⟩) 1 [⟨#[42]⟩] := ⟨one_rdT W _, rfl, by decide⟩
    refine (refjoin_any _ a 1 n 1 c1 _ ss _ hl ((hs.below hW).below hb)).mono ?_
    rintro e w' ⟨v, ys, rfl, H⟩
    exact ⟨v, ys, rfl, H.out.1.mono (by simp), H.out.2.1, hb.trans (H.out.2.2.mono hb.size)⟩
  have Q25 : Hid (∀ (W : World) (g g' : Nat), BlkV W g 9 (tv (lentT ss 3)) → Calls Try.prog 30 #[.slice (some ⟨g, 0, none⟩) n (n + 3)] W (CopyPost ss 1000000000000 W)) := fun W g g' hx => pcopy_any _ n _ ss W (NX W g hx)
  have Q26 : Hid (∀ (W : World) (g g' : Nat), BlkV W g 9 (tv (lentT ss 3)) → Calls Try.prog 31 #[.slice (some ⟨g, 0, none⟩) n (n + 3)] W (CopyPost (ss.map fb) 1000000000000 W)) := fun W g g' hx => pfold_any _ n _ ss W (NX W g hx)
  have Q27 : Hid (∀ (W : World) (g g' : Nat), Below w.heap.size w W → Calls Try.prog 33 #[.slice a n c1] W (CopyPost (ss.map fb) 1000000000000 W)) := fun W g g' hW => refnfold_any a n c1 ss W (hs.below hW)
  have QS : Hid (∀ W x y (r : List ByteArray) (c d : Nat), r.length ≤ 9223372036854775807 → RdT W x r → RdT W y r → Calls Try.prog 32 #[.slice x r.length c, .slice y r.length d] W fun e w' => e = .returned (.bool true) ∧ Hid (Below W.heap.size W w')) := fun W x y r c d hr h1 h2 => sameN_yes x y r.length c d r W h1 h2 rfl hr
  have QA : Hid (∀ W x (c : Nat), Below w.heap.size w W → RdT W x ss → Calls Try.prog 32 #[.slice x ss.length c, .slice a n c1] W fun e w' => e = .returned (.bool true) ∧ Hid (Below W.heap.size W w')) := fun W x c hW h1 => by
    have := sameN_yes x a ss.length c c1 ss W h1 (hs.below hW).rd rfl (by rw [hs.len]; omega)
    rw [hs.len] at this ⊢
    exact this
  have QK1 : Hid (∀ W g, Below w.heap.size w W → BlkV W g 9 (tv (lentT ss 3)) → Calls Try.prog 35 #[.slice (some ⟨g, 0, none⟩) n (n + 3), .slice a n c1] W fun e w' => e = .returned (.bool true) ∧ Hid (Below W.heap.size W w')) := fun W g hW hb => keptN_at g a c1 n (n + 3) ss W hs.len hb (hs.below hW).rd (by omega) rfl
  have QK2 : Hid (∀ W g, Below w.heap.size w W → BlkV W g 9 (tv (lentT ts 3)) → Calls Try.prog 35 #[.slice (some ⟨g, 0, none⟩) m (m + 3), .slice b m c2] W fun e w' => e = .returned (.bool true) ∧ Hid (Below W.heap.size W w')) := fun W g hW hb => keptN_at g b c2 m (m + 3) ts W hg.len hb (hg.below hW).rd (by omega) rfl
  have HSL : Hid (ss.length = n) := hs.len
  clear hs hg NX NY
  generalize nck ss = z1 at *
  generalize nsz ss = z2 at *
  generalize nsame ss ts = z3 at *
  generalize ncmp ss ts = z4 at *
  generalize nunder ss ts = z5 at *
  generalize ncom ss ts = z6 at *
  generalize (nparent ss).1 = p1 at *
  generalize (nparent ss).2 = p2 at *
  generalize (nabove ss d).1 = u1 at *
  generalize (nabove ss d).2 = u2 at *
  generalize (njoin ss ts).1 = j1 at *
  generalize (njoin ss ts).2 = j2 at *
  generalize (njoin [⟨#[42]⟩] ss).1 = v1 at *
  generalize (njoin [⟨#[42]⟩] ss).2 = v2 at *
  generalize ss.map fb = f1 at *
  go_enter Try.func3, Try.ntmps3
  go_wp2_with fail
  refine K1.out.mono ?_
  rintro e w0 ⟨rfl, rfl⟩
  go_wp2_with fail
  refine K2.out.mono ?_
  rintro e w0 ⟨rfl, rfl⟩
  clear K1 K2
  go_wp2_with fail
  refine (L1.out _ (Below.refl _ _)).mono ?_
  rintro e w1 ⟨rfl, H1⟩
  go_wp2_with fail
  refine (L2.out _ H1.out.2).mono ?_
  rintro e w2 ⟨rfl, H2⟩
  have F2 : Hid (Below w0.heap.size w0 w2 ∧ BlkV w2 w0.heap.size 9 (tv (lentT ss 3)) ∧ BlkV w2 w1.heap.size 9 (tv (lentT ts 3)) ∧ Below w2.heap.size w2 w2) := ⟨H1.out.2.trans (H2.out.2.mono H1.out.2.size), H1.out.1.below H2.out.2, H2.out.1, Below.refl _ _⟩
  have FB : Hid (Below w0.heap.size w0 w2 ∧ BlkV w2 w0.heap.size 9 (tv (lentT ss 3)) ∧ BlkV w2 w1.heap.size 9 (tv (lentT ts 3))) := ⟨F2.out.1, F2.out.2.1, F2.out.2.2.1⟩
  clear H1 H2 L1 L2
  go_wp2_with fail
  refine (Q5.out _ _ 0 F2.out.2.1).mono ?_
  rintro e w3 ⟨rfl, B3⟩
  have F3 : Hid (Below w0.heap.size w0 w3 ∧ BlkV w3 w0.heap.size 9 (tv (lentT ss 3)) ∧ BlkV w3 w1.heap.size 9 (tv (lentT ts 3)) ∧ Below w2.heap.size w2 w3) := ⟨F2.out.1.trans (B3.out.mono F2.out.1.size), F2.out.2.1.below B3.out, F2.out.2.2.1.below B3.out, F2.out.2.2.2.trans (B3.out.mono F2.out.2.2.2.size)⟩
  clear F2 B3 Q5
  go_wp2_with fail
  refine (Q6.out _ 0 0 F3.out.1).mono ?_
  rintro e w4 ⟨rfl, B4⟩
  have F4 : Hid (Below w0.heap.size w0 w4 ∧ BlkV w4 w0.heap.size 9 (tv (lentT ss 3)) ∧ BlkV w4 w1.heap.size 9 (tv (lentT ts 3)) ∧ Below w2.heap.size w2 w4) := ⟨F3.out.1.trans (B4.out.mono F3.out.1.size), F3.out.2.1.below B4.out, F3.out.2.2.1.below B4.out, F3.out.2.2.2.trans (B4.out.mono F3.out.2.2.2.size)⟩
  clear F3 B4 Q6
  go_wp2_with fail
  refine (Q7.out _ _ 0 F4.out.2.1).mono ?_
  rintro e w5 ⟨rfl, B5⟩
  have F5 : Hid (Below w0.heap.size w0 w5 ∧ BlkV w5 w0.heap.size 9 (tv (lentT ss 3)) ∧ BlkV w5 w1.heap.size 9 (tv (lentT ts 3)) ∧ Below w2.heap.size w2 w5) := ⟨F4.out.1.trans (B5.out.mono F4.out.1.size), F4.out.2.1.below B5.out, F4.out.2.2.1.below B5.out, F4.out.2.2.2.trans (B5.out.mono F4.out.2.2.2.size)⟩
  clear F4 B5 Q7
  go_wp2_with fail
  refine (Q8.out _ 0 0 F5.out.1).mono ?_
  rintro e w6 ⟨rfl, B6⟩
  have F6 : Hid (Below w0.heap.size w0 w6 ∧ BlkV w6 w0.heap.size 9 (tv (lentT ss 3)) ∧ BlkV w6 w1.heap.size 9 (tv (lentT ts 3)) ∧ Below w2.heap.size w2 w6) := ⟨F5.out.1.trans (B6.out.mono F5.out.1.size), F5.out.2.1.below B6.out, F5.out.2.2.1.below B6.out, F5.out.2.2.2.trans (B6.out.mono F5.out.2.2.2.size)⟩
  clear F5 B6 Q8
  go_wp2_with fail
  refine (Q9.out _ _ _ F6.out.2.1 F6.out.2.2.1).mono ?_
  rintro e w7 ⟨rfl, B7⟩
  have F7 : Hid (Below w0.heap.size w0 w7 ∧ BlkV w7 w0.heap.size 9 (tv (lentT ss 3)) ∧ BlkV w7 w1.heap.size 9 (tv (lentT ts 3)) ∧ Below w2.heap.size w2 w7) := ⟨F6.out.1.trans (B7.out.mono F6.out.1.size), F6.out.2.1.below B7.out, F6.out.2.2.1.below B7.out, F6.out.2.2.2.trans (B7.out.mono F6.out.2.2.2.size)⟩
  clear F6 B7 Q9
  go_wp2_with fail
  refine (Q10.out _ 0 0 F7.out.1).mono ?_
  rintro e w8 ⟨rfl, B8⟩
  have F8 : Hid (Below w0.heap.size w0 w8 ∧ BlkV w8 w0.heap.size 9 (tv (lentT ss 3)) ∧ BlkV w8 w1.heap.size 9 (tv (lentT ts 3)) ∧ Below w2.heap.size w2 w8) := ⟨F7.out.1.trans (B8.out.mono F7.out.1.size), F7.out.2.1.below B8.out, F7.out.2.2.1.below B8.out, F7.out.2.2.2.trans (B8.out.mono F7.out.2.2.2.size)⟩
  clear F7 B8 Q10
  go_wp2_with fail
  refine (Q11.out _ _ _ F8.out.2.1 F8.out.2.2.1).mono ?_
  rintro e w9 ⟨rfl, B9⟩
  have F9 : Hid (Below w0.heap.size w0 w9 ∧ BlkV w9 w0.heap.size 9 (tv (lentT ss 3)) ∧ BlkV w9 w1.heap.size 9 (tv (lentT ts 3)) ∧ Below w2.heap.size w2 w9) := ⟨F8.out.1.trans (B9.out.mono F8.out.1.size), F8.out.2.1.below B9.out, F8.out.2.2.1.below B9.out, F8.out.2.2.2.trans (B9.out.mono F8.out.2.2.2.size)⟩
  clear F8 B9 Q11
  go_wp2_with fail
  refine (Q12.out _ 0 0 F9.out.1).mono ?_
  rintro e w10 ⟨rfl, B10⟩
  have F10 : Hid (Below w0.heap.size w0 w10 ∧ BlkV w10 w0.heap.size 9 (tv (lentT ss 3)) ∧ BlkV w10 w1.heap.size 9 (tv (lentT ts 3)) ∧ Below w2.heap.size w2 w10) := ⟨F9.out.1.trans (B10.out.mono F9.out.1.size), F9.out.2.1.below B10.out, F9.out.2.2.1.below B10.out, F9.out.2.2.2.trans (B10.out.mono F9.out.2.2.2.size)⟩
  clear F9 B10 Q12
  go_wp2_with fail
  refine (Q13.out _ _ _ F10.out.2.1 F10.out.2.2.1).mono ?_
  rintro e w11 ⟨rfl, B11⟩
  have F11 : Hid (Below w0.heap.size w0 w11 ∧ BlkV w11 w0.heap.size 9 (tv (lentT ss 3)) ∧ BlkV w11 w1.heap.size 9 (tv (lentT ts 3)) ∧ Below w2.heap.size w2 w11) := ⟨F10.out.1.trans (B11.out.mono F10.out.1.size), F10.out.2.1.below B11.out, F10.out.2.2.1.below B11.out, F10.out.2.2.2.trans (B11.out.mono F10.out.2.2.2.size)⟩
  clear F10 B11 Q13
  go_wp2_with fail
  refine (Q14.out _ 0 0 F11.out.1).mono ?_
  rintro e w12 ⟨rfl, B12⟩
  have F12 : Hid (Below w0.heap.size w0 w12 ∧ BlkV w12 w0.heap.size 9 (tv (lentT ss 3)) ∧ BlkV w12 w1.heap.size 9 (tv (lentT ts 3)) ∧ Below w2.heap.size w2 w12) := ⟨F11.out.1.trans (B12.out.mono F11.out.1.size), F11.out.2.1.below B12.out, F11.out.2.2.1.below B12.out, F11.out.2.2.2.trans (B12.out.mono F11.out.2.2.2.size)⟩
  clear F11 B12 Q14
  go_wp2_with fail
  refine (Q15.out _ _ _ F12.out.2.1 F12.out.2.2.1).mono ?_
  rintro e w13 ⟨rfl, B13⟩
  have F13 : Hid (Below w0.heap.size w0 w13 ∧ BlkV w13 w0.heap.size 9 (tv (lentT ss 3)) ∧ BlkV w13 w1.heap.size 9 (tv (lentT ts 3)) ∧ Below w2.heap.size w2 w13) := ⟨F12.out.1.trans (B13.out.mono F12.out.1.size), F12.out.2.1.below B13.out, F12.out.2.2.1.below B13.out, F12.out.2.2.2.trans (B13.out.mono F12.out.2.2.2.size)⟩
  clear F12 B13 Q15
  go_wp2_with fail
  refine (Q16.out _ 0 0 F13.out.1).mono ?_
  rintro e w14 ⟨rfl, B14⟩
  have F14 : Hid (Below w0.heap.size w0 w14 ∧ BlkV w14 w0.heap.size 9 (tv (lentT ss 3)) ∧ BlkV w14 w1.heap.size 9 (tv (lentT ts 3)) ∧ Below w2.heap.size w2 w14) := ⟨F13.out.1.trans (B14.out.mono F13.out.1.size), F13.out.2.1.below B14.out, F13.out.2.2.1.below B14.out, F13.out.2.2.2.trans (B14.out.mono F13.out.2.2.2.size)⟩
  clear F13 B14 Q16
  go_wp2_with fail
  refine (Q17.out _ _ 0 F14.out.2.1).mono ?_
  rintro e w15 ⟨vv15, ys15, rfl, H15⟩
  obtain ⟨ao15, hv15, _⟩ := H15.out.1.shape
  subst hv15
  have hr15 : p1.length ≤ 9223372036854775807 := by have := H15.out.1.le; simp only [maxLen] at this; omega
  have F15 : Hid (Below w0.heap.size w0 w15 ∧ BlkV w15 w0.heap.size 9 (tv (lentT ss 3)) ∧ BlkV w15 w1.heap.size 9 (tv (lentT ts 3)) ∧ Below w2.heap.size w2 w15 ∧ RdT w15 ao15 p1 ∧ OwnT w2.heap.size w15 (.slice ao15 p1.length ys15.length) p1.length ys15 1000000000000) := ⟨F14.out.1.trans (H15.out.2.2.mono F14.out.1.size), F14.out.2.1.below H15.out.2.2, F14.out.2.2.1.below H15.out.2.2, F14.out.2.2.2.trans (H15.out.2.2.mono F14.out.2.2.2.size), (by have := H15.out.1.rd p1.length; rw [H15.out.2.1] at this; exact this), H15.out.1.mono F14.out.2.2.2.size⟩
  clear F14 H15 Q17
  go_wp2_with fail
  refine (Q18.out _ 0 0 F15.out.1).mono ?_
  rintro e w16 ⟨vv16, ys16, rfl, H16⟩
  obtain ⟨ao16, hv16, _⟩ := H16.out.1.shape
  subst hv16
  have hr16 : p1.length ≤ 9223372036854775807 := by have := H16.out.1.le; simp only [maxLen] at this; omega
  have F16 : Hid (Below w0.heap.size w0 w16 ∧ BlkV w16 w0.heap.size 9 (tv (lentT ss 3)) ∧ BlkV w16 w1.heap.size 9 (tv (lentT ts 3)) ∧ Below w2.heap.size w2 w16 ∧ RdT w16 ao15 p1 ∧ OwnT w2.heap.size w16 (.slice ao15 p1.length ys15.length) p1.length ys15 1000000000000 ∧ RdT w16 ao16 p1) := ⟨F15.out.1.trans (H16.out.2.2.mono F15.out.1.size), F15.out.2.1.below H16.out.2.2, F15.out.2.2.1.below H16.out.2.2, F15.out.2.2.2.1.trans (H16.out.2.2.mono F15.out.2.2.2.1.size), F15.out.2.2.2.2.1.below H16.out.2.2, F15.out.2.2.2.2.2.below H16.out.2.2, (by have := H16.out.1.rd p1.length; rw [H16.out.2.1] at this; exact this)⟩
  clear F15 H16 Q18
  go_wp2_with fail
  refine (Q19.out _ _ 0 F16.out.2.1).mono ?_
  rintro e w17 ⟨vv17, ys17, rfl, H17⟩
  obtain ⟨ao17, hv17, _⟩ := H17.out.1.shape
  subst hv17
  have hr17 : u1.length ≤ 9223372036854775807 := by have := H17.out.1.le; simp only [maxLen] at this; omega
  have F17 : Hid (Below w0.heap.size w0 w17 ∧ BlkV w17 w0.heap.size 9 (tv (lentT ss 3)) ∧ BlkV w17 w1.heap.size 9 (tv (lentT ts 3)) ∧ Below w2.heap.size w2 w17 ∧ RdT w17 ao15 p1 ∧ OwnT w2.heap.size w17 (.slice ao15 p1.length ys15.length) p1.length ys15 1000000000000 ∧ RdT w17 ao16 p1 ∧ RdT w17 ao17 u1 ∧ OwnT w2.heap.size w17 (.slice ao17 u1.length ys17.length) u1.length ys17 1000000000000) := ⟨F16.out.1.trans (H17.out.2.2.mono F16.out.1.size), F16.out.2.1.below H17.out.2.2, F16.out.2.2.1.below H17.out.2.2, F16.out.2.2.2.1.trans (H17.out.2.2.mono F16.out.2.2.2.1.size), F16.out.2.2.2.2.1.below H17.out.2.2, F16.out.2.2.2.2.2.1.below H17.out.2.2, F16.out.2.2.2.2.2.2.below H17.out.2.2, (by have := H17.out.1.rd u1.length; rw [H17.out.2.1] at this; exact this), H17.out.1.mono F16.out.2.2.2.1.size⟩
  clear F16 H17 Q19
  go_wp2_with fail
  refine (Q20.out _ 0 0 F17.out.1).mono ?_
  rintro e w18 ⟨vv18, ys18, rfl, H18⟩
  obtain ⟨ao18, hv18, _⟩ := H18.out.1.shape
  subst hv18
  have hr18 : u1.length ≤ 9223372036854775807 := by have := H18.out.1.le; simp only [maxLen] at this; omega
  have F18 : Hid (Below w0.heap.size w0 w18 ∧ BlkV w18 w0.heap.size 9 (tv (lentT ss 3)) ∧ BlkV w18 w1.heap.size 9 (tv (lentT ts 3)) ∧ Below w2.heap.size w2 w18 ∧ RdT w18 ao15 p1 ∧ OwnT w2.heap.size w18 (.slice ao15 p1.length ys15.length) p1.length ys15 1000000000000 ∧ RdT w18 ao16 p1 ∧ RdT w18 ao17 u1 ∧ OwnT w2.heap.size w18 (.slice ao17 u1.length ys17.length) u1.length ys17 1000000000000 ∧ RdT w18 ao18 u1) := ⟨F17.out.1.trans (H18.out.2.2.mono F17.out.1.size), F17.out.2.1.below H18.out.2.2, F17.out.2.2.1.below H18.out.2.2, F17.out.2.2.2.1.trans (H18.out.2.2.mono F17.out.2.2.2.1.size), F17.out.2.2.2.2.1.below H18.out.2.2, F17.out.2.2.2.2.2.1.below H18.out.2.2, F17.out.2.2.2.2.2.2.1.below H18.out.2.2, F17.out.2.2.2.2.2.2.2.1.below H18.out.2.2, F17.out.2.2.2.2.2.2.2.2.below H18.out.2.2, (by have := H18.out.1.rd u1.length; rw [H18.out.2.1] at this; exact this)⟩
  clear F17 H18 Q20
  go_wp2_with fail
  refine (Q21.out _ _ _ F18.out.2.1 F18.out.2.2.1).mono ?_
  rintro e w19 ⟨vv19, ys19, rfl, H19⟩
  obtain ⟨ao19, hv19, _⟩ := H19.out.1.shape
  subst hv19
  have hr19 : j1.length ≤ 9223372036854775807 := by have := H19.out.1.le; simp only [maxLen] at this; omega
  have F19 : Hid (Below w0.heap.size w0 w19 ∧ BlkV w19 w0.heap.size 9 (tv (lentT ss 3)) ∧ BlkV w19 w1.heap.size 9 (tv (lentT ts 3)) ∧ Below w2.heap.size w2 w19 ∧ RdT w19 ao15 p1 ∧ OwnT w2.heap.size w19 (.slice ao15 p1.length ys15.length) p1.length ys15 1000000000000 ∧ RdT w19 ao16 p1 ∧ RdT w19 ao17 u1 ∧ OwnT w2.heap.size w19 (.slice ao17 u1.length ys17.length) u1.length ys17 1000000000000 ∧ RdT w19 ao18 u1 ∧ RdT w19 ao19 j1 ∧ OwnT w2.heap.size w19 (.slice ao19 j1.length ys19.length) j1.length ys19 1000000000000) := ⟨F18.out.1.trans (H19.out.2.2.mono F18.out.1.size), F18.out.2.1.below H19.out.2.2, F18.out.2.2.1.below H19.out.2.2, F18.out.2.2.2.1.trans (H19.out.2.2.mono F18.out.2.2.2.1.size), F18.out.2.2.2.2.1.below H19.out.2.2, F18.out.2.2.2.2.2.1.below H19.out.2.2, F18.out.2.2.2.2.2.2.1.below H19.out.2.2, F18.out.2.2.2.2.2.2.2.1.below H19.out.2.2, F18.out.2.2.2.2.2.2.2.2.1.below H19.out.2.2, F18.out.2.2.2.2.2.2.2.2.2.below H19.out.2.2, (by have := H19.out.1.rd j1.length; rw [H19.out.2.1] at this; exact this), H19.out.1.mono F18.out.2.2.2.1.size⟩
  clear F18 H19 Q21
  go_wp2_with fail
  refine (Q22.out _ 0 0 F19.out.1).mono ?_
  rintro e w20 ⟨vv20, ys20, rfl, H20⟩
  obtain ⟨ao20, hv20, _⟩ := H20.out.1.shape
  subst hv20
  have hr20 : j1.length ≤ 9223372036854775807 := by have := H20.out.1.le; simp only [maxLen] at this; omega
  have F20 : Hid (Below w0.heap.size w0 w20 ∧ BlkV w20 w0.heap.size 9 (tv (lentT ss 3)) ∧ BlkV w20 w1.heap.size 9 (tv (lentT ts 3)) ∧ Below w2.heap.size w2 w20 ∧ RdT w20 ao15 p1 ∧ OwnT w2.heap.size w20 (.slice ao15 p1.length ys15.length) p1.length ys15 1000000000000 ∧ RdT w20 ao16 p1 ∧ RdT w20 ao17 u1 ∧ OwnT w2.heap.size w20 (.slice ao17 u1.length ys17.length) u1.length ys17 1000000000000 ∧ RdT w20 ao18 u1 ∧ RdT w20 ao19 j1 ∧ OwnT w2.heap.size w20 (.slice ao19 j1.length ys19.length) j1.length ys19 1000000000000 ∧ RdT w20 ao20 j1) := ⟨F19.out.1.trans (H20.out.2.2.mono F19.out.1.size), F19.out.2.1.below H20.out.2.2, F19.out.2.2.1.below H20.out.2.2, F19.out.2.2.2.1.trans (H20.out.2.2.mono F19.out.2.2.2.1.size), F19.out.2.2.2.2.1.below H20.out.2.2, F19.out.2.2.2.2.2.1.below H20.out.2.2, F19.out.2.2.2.2.2.2.1.below H20.out.2.2, F19.out.2.2.2.2.2.2.2.1.below H20.out.2.2, F19.out.2.2.2.2.2.2.2.2.1.below H20.out.2.2, F19.out.2.2.2.2.2.2.2.2.2.1.below H20.out.2.2, F19.out.2.2.2.2.2.2.2.2.2.2.1.below H20.out.2.2, F19.out.2.2.2.2.2.2.2.2.2.2.2.below H20.out.2.2, (by have := H20.out.1.rd j1.length; rw [H20.out.2.1] at this; exact this)⟩
  clear F19 H20 Q22
  go_wp2_with fail
  refine (Q23.out _ _ 0 F20.out.2.1).mono ?_
  rintro e w21 ⟨vv21, ys21, rfl, H21⟩
  obtain ⟨ao21, hv21, _⟩ := H21.out.1.shape
  subst hv21
  have hr21 : v1.length ≤ 9223372036854775807 := by have := H21.out.1.le; simp only [maxLen] at this; omega
  have F21 : Hid (Below w0.heap.size w0 w21 ∧ BlkV w21 w0.heap.size 9 (tv (lentT ss 3)) ∧ BlkV w21 w1.heap.size 9 (tv (lentT ts 3)) ∧ Below w2.heap.size w2 w21 ∧ RdT w21 ao15 p1 ∧ OwnT w2.heap.size w21 (.slice ao15 p1.length ys15.length) p1.length ys15 1000000000000 ∧ RdT w21 ao16 p1 ∧ RdT w21 ao17 u1 ∧ OwnT w2.heap.size w21 (.slice ao17 u1.length ys17.length) u1.length ys17 1000000000000 ∧ RdT w21 ao18 u1 ∧ RdT w21 ao19 j1 ∧ OwnT w2.heap.size w21 (.slice ao19 j1.length ys19.length) j1.length ys19 1000000000000 ∧ RdT w21 ao20 j1 ∧ RdT w21 ao21 v1 ∧ OwnT w2.heap.size w21 (.slice ao21 v1.length ys21.length) v1.length ys21 1000000000000) := ⟨F20.out.1.trans (H21.out.2.2.mono F20.out.1.size), F20.out.2.1.below H21.out.2.2, F20.out.2.2.1.below H21.out.2.2, F20.out.2.2.2.1.trans (H21.out.2.2.mono F20.out.2.2.2.1.size), F20.out.2.2.2.2.1.below H21.out.2.2, F20.out.2.2.2.2.2.1.below H21.out.2.2, F20.out.2.2.2.2.2.2.1.below H21.out.2.2, F20.out.2.2.2.2.2.2.2.1.below H21.out.2.2, F20.out.2.2.2.2.2.2.2.2.1.below H21.out.2.2, F20.out.2.2.2.2.2.2.2.2.2.1.below H21.out.2.2, F20.out.2.2.2.2.2.2.2.2.2.2.1.below H21.out.2.2, F20.out.2.2.2.2.2.2.2.2.2.2.2.1.below H21.out.2.2, F20.out.2.2.2.2.2.2.2.2.2.2.2.2.below H21.out.2.2, (by have := H21.out.1.rd v1.length; rw [H21.out.2.1] at this; exact this), H21.out.1.mono F20.out.2.2.2.1.size⟩
  clear F20 H21 Q23
  go_wp2_with fail
  refine (Q24.out _ F21.out.1).mono ?_
  rintro e w22 ⟨vv22, ys22, rfl, H22⟩
  obtain ⟨ao22, hv22, _⟩ := H22.out.1.shape
  subst hv22
  have hr22 : v1.length ≤ 9223372036854775807 := by have := H22.out.1.le; simp only [maxLen] at this; omega
  have F22 : Hid (Below w0.heap.size w0 w22 ∧ BlkV w22 w0.heap.size 9 (tv (lentT ss 3)) ∧ BlkV w22 w1.heap.size 9 (tv (lentT ts 3)) ∧ Below w2.heap.size w2 w22 ∧ RdT w22 ao15 p1 ∧ OwnT w2.heap.size w22 (.slice ao15 p1.length ys15.length) p1.length ys15 1000000000000 ∧ RdT w22 ao16 p1 ∧ RdT w22 ao17 u1 ∧ OwnT w2.heap.size w22 (.slice ao17 u1.length ys17.length) u1.length ys17 1000000000000 ∧ RdT w22 ao18 u1 ∧ RdT w22 ao19 j1 ∧ OwnT w2.heap.size w22 (.slice ao19 j1.length ys19.length) j1.length ys19 1000000000000 ∧ RdT w22 ao20 j1 ∧ RdT w22 ao21 v1 ∧ OwnT w2.heap.size w22 (.slice ao21 v1.length ys21.length) v1.length ys21 1000000000000 ∧ RdT w22 ao22 v1) := ⟨F21.out.1.trans (H22.out.2.2.mono F21.out.1.size), F21.out.2.1.below H22.out.2.2, F21.out.2.2.1.below H22.out.2.2, F21.out.2.2.2.1.trans (H22.out.2.2.mono F21.out.2.2.2.1.size), F21.out.2.2.2.2.1.below H22.out.2.2, F21.out.2.2.2.2.2.1.below H22.out.2.2, F21.out.2.2.2.2.2.2.1.below H22.out.2.2, F21.out.2.2.2.2.2.2.2.1.below H22.out.2.2, F21.out.2.2.2.2.2.2.2.2.1.below H22.out.2.2, F21.out.2.2.2.2.2.2.2.2.2.1.below H22.out.2.2, F21.out.2.2.2.2.2.2.2.2.2.2.1.below H22.out.2.2, F21.out.2.2.2.2.2.2.2.2.2.2.2.1.below H22.out.2.2, F21.out.2.2.2.2.2.2.2.2.2.2.2.2.1.below H22.out.2.2, F21.out.2.2.2.2.2.2.2.2.2.2.2.2.2.1.below H22.out.2.2, F21.out.2.2.2.2.2.2.2.2.2.2.2.2.2.2.below H22.out.2.2, (by have := H22.out.1.rd v1.length; rw [H22.out.2.1] at this; exact this)⟩
  clear F21 H22 Q24
  go_wp2_with fail
  refine (Q25.out _ _ 0 F22.out.2.1).mono ?_
  rintro e w23 ⟨vv23, ys23, rfl, H23⟩
  obtain ⟨ao23, hv23, _⟩ := H23.out.1.shape
  subst hv23
  have hr23 : ss.length ≤ 9223372036854775807 := by have := H23.out.1.le; simp only [maxLen] at this; omega
  have F23 : Hid (Below w0.heap.size w0 w23 ∧ BlkV w23 w0.heap.size 9 (tv (lentT ss 3)) ∧ BlkV w23 w1.heap.size 9 (tv (lentT ts 3)) ∧ Below w2.heap.size w2 w23 ∧ RdT w23 ao15 p1 ∧ OwnT w2.heap.size w23 (.slice ao15 p1.length ys15.length) p1.length ys15 1000000000000 ∧ RdT w23 ao16 p1 ∧ RdT w23 ao17 u1 ∧ OwnT w2.heap.size w23 (.slice ao17 u1.length ys17.length) u1.length ys17 1000000000000 ∧ RdT w23 ao18 u1 ∧ RdT w23 ao19 j1 ∧ OwnT w2.heap.size w23 (.slice ao19 j1.length ys19.length) j1.length ys19 1000000000000 ∧ RdT w23 ao20 j1 ∧ RdT w23 ao21 v1 ∧ OwnT w2.heap.size w23 (.slice ao21 v1.length ys21.length) v1.length ys21 1000000000000 ∧ RdT w23 ao22 v1 ∧ RdT w23 ao23 ss ∧ OwnT w2.heap.size w23 (.slice ao23 ss.length ys23.length) ss.length ys23 1000000000000) := ⟨F22.out.1.trans (H23.out.2.2.mono F22.out.1.size), F22.out.2.1.below H23.out.2.2, F22.out.2.2.1.below H23.out.2.2, F22.out.2.2.2.1.trans (H23.out.2.2.mono F22.out.2.2.2.1.size), F22.out.2.2.2.2.1.below H23.out.2.2, F22.out.2.2.2.2.2.1.below H23.out.2.2, F22.out.2.2.2.2.2.2.1.below H23.out.2.2, F22.out.2.2.2.2.2.2.2.1.below H23.out.2.2, F22.out.2.2.2.2.2.2.2.2.1.below H23.out.2.2, F22.out.2.2.2.2.2.2.2.2.2.1.below H23.out.2.2, F22.out.2.2.2.2.2.2.2.2.2.2.1.below H23.out.2.2, F22.out.2.2.2.2.2.2.2.2.2.2.2.1.below H23.out.2.2, F22.out.2.2.2.2.2.2.2.2.2.2.2.2.1.below H23.out.2.2, F22.out.2.2.2.2.2.2.2.2.2.2.2.2.2.1.below H23.out.2.2, F22.out.2.2.2.2.2.2.2.2.2.2.2.2.2.2.1.below H23.out.2.2, F22.out.2.2.2.2.2.2.2.2.2.2.2.2.2.2.2.below H23.out.2.2, (by have := H23.out.1.rd ss.length; rw [H23.out.2.1] at this; exact this), H23.out.1.mono F22.out.2.2.2.1.size⟩
  clear F22 H23 Q25
  go_wp2_with fail
  refine (Q26.out _ _ 0 F23.out.2.1).mono ?_
  rintro e w24 ⟨vv24, ys24, rfl, H24⟩
  obtain ⟨ao24, hv24, _⟩ := H24.out.1.shape
  subst hv24
  have hr24 : f1.length ≤ 9223372036854775807 := by have := H24.out.1.le; simp only [maxLen] at this; omega
  have F24 : Hid (Below w0.heap.size w0 w24 ∧ BlkV w24 w0.heap.size 9 (tv (lentT ss 3)) ∧ BlkV w24 w1.heap.size 9 (tv (lentT ts 3)) ∧ Below w2.heap.size w2 w24 ∧ RdT w24 ao15 p1 ∧ OwnT w2.heap.size w24 (.slice ao15 p1.length ys15.length) p1.length ys15 1000000000000 ∧ RdT w24 ao16 p1 ∧ RdT w24 ao17 u1 ∧ OwnT w2.heap.size w24 (.slice ao17 u1.length ys17.length) u1.length ys17 1000000000000 ∧ RdT w24 ao18 u1 ∧ RdT w24 ao19 j1 ∧ OwnT w2.heap.size w24 (.slice ao19 j1.length ys19.length) j1.length ys19 1000000000000 ∧ RdT w24 ao20 j1 ∧ RdT w24 ao21 v1 ∧ OwnT w2.heap.size w24 (.slice ao21 v1.length ys21.length) v1.length ys21 1000000000000 ∧ RdT w24 ao22 v1 ∧ RdT w24 ao23 ss ∧ OwnT w2.heap.size w24 (.slice ao23 ss.length ys23.length) ss.length ys23 1000000000000 ∧ RdT w24 ao24 f1 ∧ OwnT w2.heap.size w24 (.slice ao24 f1.length ys24.length) f1.length ys24 1000000000000) := ⟨F23.out.1.trans (H24.out.2.2.mono F23.out.1.size), F23.out.2.1.below H24.out.2.2, F23.out.2.2.1.below H24.out.2.2, F23.out.2.2.2.1.trans (H24.out.2.2.mono F23.out.2.2.2.1.size), F23.out.2.2.2.2.1.below H24.out.2.2, F23.out.2.2.2.2.2.1.below H24.out.2.2, F23.out.2.2.2.2.2.2.1.below H24.out.2.2, F23.out.2.2.2.2.2.2.2.1.below H24.out.2.2, F23.out.2.2.2.2.2.2.2.2.1.below H24.out.2.2, F23.out.2.2.2.2.2.2.2.2.2.1.below H24.out.2.2, F23.out.2.2.2.2.2.2.2.2.2.2.1.below H24.out.2.2, F23.out.2.2.2.2.2.2.2.2.2.2.2.1.below H24.out.2.2, F23.out.2.2.2.2.2.2.2.2.2.2.2.2.1.below H24.out.2.2, F23.out.2.2.2.2.2.2.2.2.2.2.2.2.2.1.below H24.out.2.2, F23.out.2.2.2.2.2.2.2.2.2.2.2.2.2.2.1.below H24.out.2.2, F23.out.2.2.2.2.2.2.2.2.2.2.2.2.2.2.2.1.below H24.out.2.2, F23.out.2.2.2.2.2.2.2.2.2.2.2.2.2.2.2.2.1.below H24.out.2.2, F23.out.2.2.2.2.2.2.2.2.2.2.2.2.2.2.2.2.2.below H24.out.2.2, (by have := H24.out.1.rd f1.length; rw [H24.out.2.1] at this; exact this), H24.out.1.mono F23.out.2.2.2.1.size⟩
  clear F23 H24 Q26
  go_wp2_with fail
  refine (QS.out _ _ _ _ _ _ hr15 F24.out.2.2.2.2.1 F24.out.2.2.2.2.2.2.1).mono ?_
  rintro e w25 ⟨rfl, B25⟩
  have F25 : Hid (Below w0.heap.size w0 w25 ∧ BlkV w25 w0.heap.size 9 (tv (lentT ss 3)) ∧ BlkV w25 w1.heap.size 9 (tv (lentT ts 3)) ∧ Below w2.heap.size w2 w25 ∧ RdT w25 ao15 p1 ∧ OwnT w2.heap.size w25 (.slice ao15 p1.length ys15.length) p1.length ys15 1000000000000 ∧ RdT w25 ao16 p1 ∧ RdT w25 ao17 u1 ∧ OwnT w2.heap.size w25 (.slice ao17 u1.length ys17.length) u1.length ys17 1000000000000 ∧ RdT w25 ao18 u1 ∧ RdT w25 ao19 j1 ∧ OwnT w2.heap.size w25 (.slice ao19 j1.length ys19.length) j1.length ys19 1000000000000 ∧ RdT w25 ao20 j1 ∧ RdT w25 ao21 v1 ∧ OwnT w2.heap.size w25 (.slice ao21 v1.length ys21.length) v1.length ys21 1000000000000 ∧ RdT w25 ao22 v1 ∧ RdT w25 ao23 ss ∧ OwnT w2.heap.size w25 (.slice ao23 ss.length ys23.length) ss.length ys23 1000000000000 ∧ RdT w25 ao24 f1 ∧ OwnT w2.heap.size w25 (.slice ao24 f1.length ys24.length) f1.length ys24 1000000000000) := ⟨F24.out.1.trans (B25.out.mono F24.out.1.size), F24.out.2.1.below B25.out, F24.out.2.2.1.below B25.out, F24.out.2.2.2.1.trans (B25.out.mono F24.out.2.2.2.1.size), F24.out.2.2.2.2.1.below B25.out, F24.out.2.2.2.2.2.1.below B25.out, F24.out.2.2.2.2.2.2.1.below B25.out, F24.out.2.2.2.2.2.2.2.1.below B25.out, F24.out.2.2.2.2.2.2.2.2.1.below B25.out, F24.out.2.2.2.2.2.2.2.2.2.1.below B25.out, F24.out.2.2.2.2.2.2.2.2.2.2.1.below B25.out, F24.out.2.2.2.2.2.2.2.2.2.2.2.1.below B25.out, F24.out.2.2.2.2.2.2.2.2.2.2.2.2.1.below B25.out, F24.out.2.2.2.2.2.2.2.2.2.2.2.2.2.1.below B25.out, F24.out.2.2.2.2.2.2.2.2.2.2.2.2.2.2.1.below B25.out, F24.out.2.2.2.2.2.2.2.2.2.2.2.2.2.2.2.1.below B25.out, F24.out.2.2.2.2.2.2.2.2.2.2.2.2.2.2.2.2.1.below B25.out, F24.out.2.2.2.2.2.2.2.2.2.2.2.2.2.2.2.2.2.1.below B25.out, F24.out.2.2.2.2.2.2.2.2.2.2.2.2.2.2.2.2.2.2.1.below B25.out, F24.out.2.2.2.2.2.2.2.2.2.2.2.2.2.2.2.2.2.2.2.below B25.out⟩
  clear F24 B25 
  go_wp2_with fail
  refine (QS.out _ _ _ _ _ _ hr17 F25.out.2.2.2.2.2.2.2.1 F25.out.2.2.2.2.2.2.2.2.2.1).mono ?_
  rintro e w26 ⟨rfl, B26⟩
  have F26 : Hid (Below w0.heap.size w0 w26 ∧ BlkV w26 w0.heap.size 9 (tv (lentT ss 3)) ∧ BlkV w26 w1.heap.size 9 (tv (lentT ts 3)) ∧ Below w2.heap.size w2 w26 ∧ RdT w26 ao15 p1 ∧ OwnT w2.heap.size w26 (.slice ao15 p1.length ys15.length) p1.length ys15 1000000000000 ∧ RdT w26 ao16 p1 ∧ RdT w26 ao17 u1 ∧ OwnT w2.heap.size w26 (.slice ao17 u1.length ys17.length) u1.length ys17 1000000000000 ∧ RdT w26 ao18 u1 ∧ RdT w26 ao19 j1 ∧ OwnT w2.heap.size w26 (.slice ao19 j1.length ys19.length) j1.length ys19 1000000000000 ∧ RdT w26 ao20 j1 ∧ RdT w26 ao21 v1 ∧ OwnT w2.heap.size w26 (.slice ao21 v1.length ys21.length) v1.length ys21 1000000000000 ∧ RdT w26 ao22 v1 ∧ RdT w26 ao23 ss ∧ OwnT w2.heap.size w26 (.slice ao23 ss.length ys23.length) ss.length ys23 1000000000000 ∧ RdT w26 ao24 f1 ∧ OwnT w2.heap.size w26 (.slice ao24 f1.length ys24.length) f1.length ys24 1000000000000) := ⟨F25.out.1.trans (B26.out.mono F25.out.1.size), F25.out.2.1.below B26.out, F25.out.2.2.1.below B26.out, F25.out.2.2.2.1.trans (B26.out.mono F25.out.2.2.2.1.size), F25.out.2.2.2.2.1.below B26.out, F25.out.2.2.2.2.2.1.below B26.out, F25.out.2.2.2.2.2.2.1.below B26.out, F25.out.2.2.2.2.2.2.2.1.below B26.out, F25.out.2.2.2.2.2.2.2.2.1.below B26.out, F25.out.2.2.2.2.2.2.2.2.2.1.below B26.out, F25.out.2.2.2.2.2.2.2.2.2.2.1.below B26.out, F25.out.2.2.2.2.2.2.2.2.2.2.2.1.below B26.out, F25.out.2.2.2.2.2.2.2.2.2.2.2.2.1.below B26.out, F25.out.2.2.2.2.2.2.2.2.2.2.2.2.2.1.below B26.out, F25.out.2.2.2.2.2.2.2.2.2.2.2.2.2.2.1.below B26.out, F25.out.2.2.2.2.2.2.2.2.2.2.2.2.2.2.2.1.below B26.out, F25.out.2.2.2.2.2.2.2.2.2.2.2.2.2.2.2.2.1.below B26.out, F25.out.2.2.2.2.2.2.2.2.2.2.2.2.2.2.2.2.2.1.below B26.out, F25.out.2.2.2.2.2.2.2.2.2.2.2.2.2.2.2.2.2.2.1.below B26.out, F25.out.2.2.2.2.2.2.2.2.2.2.2.2.2.2.2.2.2.2.2.below B26.out⟩
  clear F25 B26 
  go_wp2_with fail
  refine (QS.out _ _ _ _ _ _ hr19 F26.out.2.2.2.2.2.2.2.2.2.2.1 F26.out.2.2.2.2.2.2.2.2.2.2.2.2.1).mono ?_
  rintro e w27 ⟨rfl, B27⟩
  have F27 : Hid (Below w0.heap.size w0 w27 ∧ BlkV w27 w0.heap.size 9 (tv (lentT ss 3)) ∧ BlkV w27 w1.heap.size 9 (tv (lentT ts 3)) ∧ Below w2.heap.size w2 w27 ∧ RdT w27 ao15 p1 ∧ OwnT w2.heap.size w27 (.slice ao15 p1.length ys15.length) p1.length ys15 1000000000000 ∧ RdT w27 ao16 p1 ∧ RdT w27 ao17 u1 ∧ OwnT w2.heap.size w27 (.slice ao17 u1.length ys17.length) u1.length ys17 1000000000000 ∧ RdT w27 ao18 u1 ∧ RdT w27 ao19 j1 ∧ OwnT w2.heap.size w27 (.slice ao19 j1.length ys19.length) j1.length ys19 1000000000000 ∧ RdT w27 ao20 j1 ∧ RdT w27 ao21 v1 ∧ OwnT w2.heap.size w27 (.slice ao21 v1.length ys21.length) v1.length ys21 1000000000000 ∧ RdT w27 ao22 v1 ∧ RdT w27 ao23 ss ∧ OwnT w2.heap.size w27 (.slice ao23 ss.length ys23.length) ss.length ys23 1000000000000 ∧ RdT w27 ao24 f1 ∧ OwnT w2.heap.size w27 (.slice ao24 f1.length ys24.length) f1.length ys24 1000000000000) := ⟨F26.out.1.trans (B27.out.mono F26.out.1.size), F26.out.2.1.below B27.out, F26.out.2.2.1.below B27.out, F26.out.2.2.2.1.trans (B27.out.mono F26.out.2.2.2.1.size), F26.out.2.2.2.2.1.below B27.out, F26.out.2.2.2.2.2.1.below B27.out, F26.out.2.2.2.2.2.2.1.below B27.out, F26.out.2.2.2.2.2.2.2.1.below B27.out, F26.out.2.2.2.2.2.2.2.2.1.below B27.out, F26.out.2.2.2.2.2.2.2.2.2.1.below B27.out, F26.out.2.2.2.2.2.2.2.2.2.2.1.below B27.out, F26.out.2.2.2.2.2.2.2.2.2.2.2.1.below B27.out, F26.out.2.2.2.2.2.2.2.2.2.2.2.2.1.below B27.out, F26.out.2.2.2.2.2.2.2.2.2.2.2.2.2.1.below B27.out, F26.out.2.2.2.2.2.2.2.2.2.2.2.2.2.2.1.below B27.out, F26.out.2.2.2.2.2.2.2.2.2.2.2.2.2.2.2.1.below B27.out, F26.out.2.2.2.2.2.2.2.2.2.2.2.2.2.2.2.2.1.below B27.out, F26.out.2.2.2.2.2.2.2.2.2.2.2.2.2.2.2.2.2.1.below B27.out, F26.out.2.2.2.2.2.2.2.2.2.2.2.2.2.2.2.2.2.2.1.below B27.out, F26.out.2.2.2.2.2.2.2.2.2.2.2.2.2.2.2.2.2.2.2.below B27.out⟩
  clear F26 B27 
  go_wp2_with fail
  refine (QS.out _ _ _ _ _ _ hr21 F27.out.2.2.2.2.2.2.2.2.2.2.2.2.2.1 F27.out.2.2.2.2.2.2.2.2.2.2.2.2.2.2.2.1).mono ?_
  rintro e w28 ⟨rfl, B28⟩
  have F28 : Hid (Below w0.heap.size w0 w28 ∧ BlkV w28 w0.heap.size 9 (tv (lentT ss 3)) ∧ BlkV w28 w1.heap.size 9 (tv (lentT ts 3)) ∧ Below w2.heap.size w2 w28 ∧ RdT w28 ao15 p1 ∧ OwnT w2.heap.size w28 (.slice ao15 p1.length ys15.length) p1.length ys15 1000000000000 ∧ RdT w28 ao16 p1 ∧ RdT w28 ao17 u1 ∧ OwnT w2.heap.size w28 (.slice ao17 u1.length ys17.length) u1.length ys17 1000000000000 ∧ RdT w28 ao18 u1 ∧ RdT w28 ao19 j1 ∧ OwnT w2.heap.size w28 (.slice ao19 j1.length ys19.length) j1.length ys19 1000000000000 ∧ RdT w28 ao20 j1 ∧ RdT w28 ao21 v1 ∧ OwnT w2.heap.size w28 (.slice ao21 v1.length ys21.length) v1.length ys21 1000000000000 ∧ RdT w28 ao22 v1 ∧ RdT w28 ao23 ss ∧ OwnT w2.heap.size w28 (.slice ao23 ss.length ys23.length) ss.length ys23 1000000000000 ∧ RdT w28 ao24 f1 ∧ OwnT w2.heap.size w28 (.slice ao24 f1.length ys24.length) f1.length ys24 1000000000000) := ⟨F27.out.1.trans (B28.out.mono F27.out.1.size), F27.out.2.1.below B28.out, F27.out.2.2.1.below B28.out, F27.out.2.2.2.1.trans (B28.out.mono F27.out.2.2.2.1.size), F27.out.2.2.2.2.1.below B28.out, F27.out.2.2.2.2.2.1.below B28.out, F27.out.2.2.2.2.2.2.1.below B28.out, F27.out.2.2.2.2.2.2.2.1.below B28.out, F27.out.2.2.2.2.2.2.2.2.1.below B28.out, F27.out.2.2.2.2.2.2.2.2.2.1.below B28.out, F27.out.2.2.2.2.2.2.2.2.2.2.1.below B28.out, F27.out.2.2.2.2.2.2.2.2.2.2.2.1.below B28.out, F27.out.2.2.2.2.2.2.2.2.2.2.2.2.1.below B28.out, F27.out.2.2.2.2.2.2.2.2.2.2.2.2.2.1.below B28.out, F27.out.2.2.2.2.2.2.2.2.2.2.2.2.2.2.1.below B28.out, F27.out.2.2.2.2.2.2.2.2.2.2.2.2.2.2.2.1.below B28.out, F27.out.2.2.2.2.2.2.2.2.2.2.2.2.2.2.2.2.1.below B28.out, F27.out.2.2.2.2.2.2.2.2.2.2.2.2.2.2.2.2.2.1.below B28.out, F27.out.2.2.2.2.2.2.2.2.2.2.2.2.2.2.2.2.2.2.1.below B28.out, F27.out.2.2.2.2.2.2.2.2.2.2.2.2.2.2.2.2.2.2.2.below B28.out⟩
  clear F27 B28 
  go_wp2_with fail
  refine (QA.out _ _ _ F28.out.1 F28.out.2.2.2.2.2.2.2.2.2.2.2.2.2.2.2.2.1).mono ?_
  rintro e w29 ⟨rfl, B29⟩
  have F29 : Hid (Below w0.heap.size w0 w29 ∧ BlkV w29 w0.heap.size 9 (tv (lentT ss 3)) ∧ BlkV w29 w1.heap.size 9 (tv (lentT ts 3)) ∧ Below w2.heap.size w2 w29 ∧ RdT w29 ao15 p1 ∧ OwnT w2.heap.size w29 (.slice ao15 p1.length ys15.length) p1.length ys15 1000000000000 ∧ RdT w29 ao16 p1 ∧ RdT w29 ao17 u1 ∧ OwnT w2.heap.size w29 (.slice ao17 u1.length ys17.length) u1.length ys17 1000000000000 ∧ RdT w29 ao18 u1 ∧ RdT w29 ao19 j1 ∧ OwnT w2.heap.size w29 (.slice ao19 j1.length ys19.length) j1.length ys19 1000000000000 ∧ RdT w29 ao20 j1 ∧ RdT w29 ao21 v1 ∧ OwnT w2.heap.size w29 (.slice ao21 v1.length ys21.length) v1.length ys21 1000000000000 ∧ RdT w29 ao22 v1 ∧ RdT w29 ao23 ss ∧ OwnT w2.heap.size w29 (.slice ao23 ss.length ys23.length) ss.length ys23 1000000000000 ∧ RdT w29 ao24 f1 ∧ OwnT w2.heap.size w29 (.slice ao24 f1.length ys24.length) f1.length ys24 1000000000000) := ⟨F28.out.1.trans (B29.out.mono F28.out.1.size), F28.out.2.1.below B29.out, F28.out.2.2.1.below B29.out, F28.out.2.2.2.1.trans (B29.out.mono F28.out.2.2.2.1.size), F28.out.2.2.2.2.1.below B29.out, F28.out.2.2.2.2.2.1.below B29.out, F28.out.2.2.2.2.2.2.1.below B29.out, F28.out.2.2.2.2.2.2.2.1.below B29.out, F28.out.2.2.2.2.2.2.2.2.1.below B29.out, F28.out.2.2.2.2.2.2.2.2.2.1.below B29.out, F28.out.2.2.2.2.2.2.2.2.2.2.1.below B29.out, F28.out.2.2.2.2.2.2.2.2.2.2.2.1.below B29.out, F28.out.2.2.2.2.2.2.2.2.2.2.2.2.1.below B29.out, F28.out.2.2.2.2.2.2.2.2.2.2.2.2.2.1.below B29.out, F28.out.2.2.2.2.2.2.2.2.2.2.2.2.2.2.1.below B29.out, F28.out.2.2.2.2.2.2.2.2.2.2.2.2.2.2.2.1.below B29.out, F28.out.2.2.2.2.2.2.2.2.2.2.2.2.2.2.2.2.1.below B29.out, F28.out.2.2.2.2.2.2.2.2.2.2.2.2.2.2.2.2.2.1.below B29.out, F28.out.2.2.2.2.2.2.2.2.2.2.2.2.2.2.2.2.2.2.1.below B29.out, F28.out.2.2.2.2.2.2.2.2.2.2.2.2.2.2.2.2.2.2.2.below B29.out⟩
  clear F28 B29 QA
  go_wp2_with fail
  refine (Q27.out _ 0 0 F29.out.1).mono ?_
  rintro e w30 ⟨vv30, ys30, rfl, H30⟩
  obtain ⟨ao30, hv30, _⟩ := H30.out.1.shape
  subst hv30
  have hr30 : f1.length ≤ 9223372036854775807 := by have := H30.out.1.le; simp only [maxLen] at this; omega
  have F30 : Hid (Below w0.heap.size w0 w30 ∧ BlkV w30 w0.heap.size 9 (tv (lentT ss 3)) ∧ BlkV w30 w1.heap.size 9 (tv (lentT ts 3)) ∧ Below w2.heap.size w2 w30 ∧ RdT w30 ao15 p1 ∧ OwnT w2.heap.size w30 (.slice ao15 p1.length ys15.length) p1.length ys15 1000000000000 ∧ RdT w30 ao16 p1 ∧ RdT w30 ao17 u1 ∧ OwnT w2.heap.size w30 (.slice ao17 u1.length ys17.length) u1.length ys17 1000000000000 ∧ RdT w30 ao18 u1 ∧ RdT w30 ao19 j1 ∧ OwnT w2.heap.size w30 (.slice ao19 j1.length ys19.length) j1.length ys19 1000000000000 ∧ RdT w30 ao20 j1 ∧ RdT w30 ao21 v1 ∧ OwnT w2.heap.size w30 (.slice ao21 v1.length ys21.length) v1.length ys21 1000000000000 ∧ RdT w30 ao22 v1 ∧ RdT w30 ao23 ss ∧ OwnT w2.heap.size w30 (.slice ao23 ss.length ys23.length) ss.length ys23 1000000000000 ∧ RdT w30 ao24 f1 ∧ OwnT w2.heap.size w30 (.slice ao24 f1.length ys24.length) f1.length ys24 1000000000000 ∧ RdT w30 ao30 f1) := ⟨F29.out.1.trans (H30.out.2.2.mono F29.out.1.size), F29.out.2.1.below H30.out.2.2, F29.out.2.2.1.below H30.out.2.2, F29.out.2.2.2.1.trans (H30.out.2.2.mono F29.out.2.2.2.1.size), F29.out.2.2.2.2.1.below H30.out.2.2, F29.out.2.2.2.2.2.1.below H30.out.2.2, F29.out.2.2.2.2.2.2.1.below H30.out.2.2, F29.out.2.2.2.2.2.2.2.1.below H30.out.2.2, F29.out.2.2.2.2.2.2.2.2.1.below H30.out.2.2, F29.out.2.2.2.2.2.2.2.2.2.1.below H30.out.2.2, F29.out.2.2.2.2.2.2.2.2.2.2.1.below H30.out.2.2, F29.out.2.2.2.2.2.2.2.2.2.2.2.1.below H30.out.2.2, F29.out.2.2.2.2.2.2.2.2.2.2.2.2.1.below H30.out.2.2, F29.out.2.2.2.2.2.2.2.2.2.2.2.2.2.1.below H30.out.2.2, F29.out.2.2.2.2.2.2.2.2.2.2.2.2.2.2.1.below H30.out.2.2, F29.out.2.2.2.2.2.2.2.2.2.2.2.2.2.2.2.1.below H30.out.2.2, F29.out.2.2.2.2.2.2.2.2.2.2.2.2.2.2.2.2.1.below H30.out.2.2, F29.out.2.2.2.2.2.2.2.2.2.2.2.2.2.2.2.2.2.1.below H30.out.2.2, F29.out.2.2.2.2.2.2.2.2.2.2.2.2.2.2.2.2.2.2.1.below H30.out.2.2, F29.out.2.2.2.2.2.2.2.2.2.2.2.2.2.2.2.2.2.2.2.below H30.out.2.2, (by have := H30.out.1.rd f1.length; rw [H30.out.2.1] at this; exact this)⟩
  clear F29 H30 Q27
  go_wp2_with fail
  refine (QS.out _ _ _ _ _ _ hr24 F30.out.2.2.2.2.2.2.2.2.2.2.2.2.2.2.2.2.2.2.1 F30.out.2.2.2.2.2.2.2.2.2.2.2.2.2.2.2.2.2.2.2.2).mono ?_
  rintro e w31 ⟨rfl, B31⟩
  have F31 : Hid (Below w0.heap.size w0 w31 ∧ BlkV w31 w0.heap.size 9 (tv (lentT ss 3)) ∧ BlkV w31 w1.heap.size 9 (tv (lentT ts 3)) ∧ Below w2.heap.size w2 w31 ∧ RdT w31 ao15 p1 ∧ OwnT w2.heap.size w31 (.slice ao15 p1.length ys15.length) p1.length ys15 1000000000000 ∧ RdT w31 ao16 p1 ∧ RdT w31 ao17 u1 ∧ OwnT w2.heap.size w31 (.slice ao17 u1.length ys17.length) u1.length ys17 1000000000000 ∧ RdT w31 ao18 u1 ∧ RdT w31 ao19 j1 ∧ OwnT w2.heap.size w31 (.slice ao19 j1.length ys19.length) j1.length ys19 1000000000000 ∧ RdT w31 ao20 j1 ∧ RdT w31 ao21 v1 ∧ OwnT w2.heap.size w31 (.slice ao21 v1.length ys21.length) v1.length ys21 1000000000000 ∧ RdT w31 ao22 v1 ∧ RdT w31 ao23 ss ∧ OwnT w2.heap.size w31 (.slice ao23 ss.length ys23.length) ss.length ys23 1000000000000 ∧ RdT w31 ao24 f1 ∧ OwnT w2.heap.size w31 (.slice ao24 f1.length ys24.length) f1.length ys24 1000000000000 ∧ RdT w31 ao30 f1) := ⟨F30.out.1.trans (B31.out.mono F30.out.1.size), F30.out.2.1.below B31.out, F30.out.2.2.1.below B31.out, F30.out.2.2.2.1.trans (B31.out.mono F30.out.2.2.2.1.size), F30.out.2.2.2.2.1.below B31.out, F30.out.2.2.2.2.2.1.below B31.out, F30.out.2.2.2.2.2.2.1.below B31.out, F30.out.2.2.2.2.2.2.2.1.below B31.out, F30.out.2.2.2.2.2.2.2.2.1.below B31.out, F30.out.2.2.2.2.2.2.2.2.2.1.below B31.out, F30.out.2.2.2.2.2.2.2.2.2.2.1.below B31.out, F30.out.2.2.2.2.2.2.2.2.2.2.2.1.below B31.out, F30.out.2.2.2.2.2.2.2.2.2.2.2.2.1.below B31.out, F30.out.2.2.2.2.2.2.2.2.2.2.2.2.2.1.below B31.out, F30.out.2.2.2.2.2.2.2.2.2.2.2.2.2.2.1.below B31.out, F30.out.2.2.2.2.2.2.2.2.2.2.2.2.2.2.2.1.below B31.out, F30.out.2.2.2.2.2.2.2.2.2.2.2.2.2.2.2.2.1.below B31.out, F30.out.2.2.2.2.2.2.2.2.2.2.2.2.2.2.2.2.2.1.below B31.out, F30.out.2.2.2.2.2.2.2.2.2.2.2.2.2.2.2.2.2.2.1.below B31.out, F30.out.2.2.2.2.2.2.2.2.2.2.2.2.2.2.2.2.2.2.2.1.below B31.out, F30.out.2.2.2.2.2.2.2.2.2.2.2.2.2.2.2.2.2.2.2.2.below B31.out⟩
  clear F30 B31 QS
  go_wp2_with fail
  have HTB : Hid (BlkV (w31.alloc (.cells #[.slice ao15 p1.length ys15.length, .slice ao17 u1.length ys17.length, .slice ao19 j1.length ys19.length, .slice ao21 v1.length ys21.length, .slice ao23 ss.length ys23.length, .slice ao24 f1.length ys24.length] 23)) w31.heap.size 23 [.slice ao15 p1.length ys15.length, .slice ao17 u1.length ys17.length, .slice ao19 j1.length ys19.length, .slice ao21 v1.length ys21.length, .slice ao23 ss.length ys23.length, .slice ao24 f1.length ys24.length]) := BlkV.new w31 23 [.slice ao15 p1.length ys15.length, .slice ao17 u1.length ys17.length, .slice ao19 j1.length ys19.length, .slice ao21 v1.length ys21.length, .slice ao23 ss.length ys23.length, .slice ao24 f1.length ys24.length]
  have HOE : Hid (∀ v ∈ ([.slice ao15 p1.length ys15.length, .slice ao17 u1.length ys17.length, .slice ao19 j1.length ys19.length, .slice ao21 v1.length ys21.length, .slice ao23 ss.length ys23.length, .slice ao24 f1.length ys24.length] : List Value), OwnE w2.heap.size (w31.alloc (.cells #[.slice ao15 p1.length ys15.length, .slice ao17 u1.length ys17.length, .slice ao19 j1.length ys19.length, .slice ao21 v1.length ys21.length, .slice ao23 ss.length ys23.length, .slice ao24 f1.length ys24.length] 23)) v 1000000000000) := by
    have hb : Below w31.heap.size w31 (w31.alloc (.cells #[.slice ao15 p1.length ys15.length, .slice ao17 u1.length ys17.length, .slice ao19 j1.length ys19.length, .slice ao21 v1.length ys21.length, .slice ao23 ss.length ys23.length, .slice ao24 f1.length ys24.length] 23)) := (Below.refl _ _).alloc (Nat.le_refl _) _
    intro v hv
    simp only [List.mem_cons, List.mem_nil_iff, or_false] at hv
    rcases hv with rfl | rfl | rfl | rfl | rfl | rfl
    · exact OwnE.below ⟨_, _, F31.out.2.2.2.2.2.1⟩ hb
    · exact OwnE.below ⟨_, _, F31.out.2.2.2.2.2.2.2.2.1⟩ hb
    · exact OwnE.below ⟨_, _, F31.out.2.2.2.2.2.2.2.2.2.2.2.1⟩ hb
    · exact OwnE.below ⟨_, _, F31.out.2.2.2.2.2.2.2.2.2.2.2.2.2.2.1⟩ hb
    · exact OwnE.below ⟨_, _, F31.out.2.2.2.2.2.2.2.2.2.2.2.2.2.2.2.2.2.1⟩ hb
    · exact OwnE.below ⟨_, _, F31.out.2.2.2.2.2.2.2.2.2.2.2.2.2.2.2.2.2.2.2.1⟩ hb
  have HBX : Hid (Below w0.heap.size w0 w2 ∧ BlkV w2 w0.heap.size 9 (tv (lentT ss 3)) ∧ BlkV w2 w1.heap.size 9 (tv (lentT ts 3)) ∧ Below w2.heap.size w2 (w31.alloc (.cells #[.slice ao15 p1.length ys15.length, .slice ao17 u1.length ys17.length, .slice ao19 j1.length ys19.length, .slice ao21 v1.length ys21.length, .slice ao23 ss.length ys23.length, .slice ao24 f1.length ys24.length] 23))) := ⟨FB.out.1, FB.out.2.1, FB.out.2.2, F31.out.2.2.2.1.alloc F31.out.2.2.2.1.size _⟩
  clear F31 FB
  have hel : ([.slice ao15 p1.length ys15.length, .slice ao17 u1.length ys17.length, .slice ao19 j1.length ys19.length, .slice ao21 v1.length ys21.length, .slice ao23 ss.length ys23.length, .slice ao24 f1.length ys24.length] : List Value).length = 6 := rfl
  have HEL : Hid (([.slice ao15 p1.length ys15.length, .slice ao17 u1.length ys17.length, .slice ao19 j1.length ys19.length, .slice ao21 v1.length ys21.length, .slice ao23 ss.length ys23.length, .slice ao24 f1.length ys24.length] : List Value).length = 6) := hel
  clear hel
  generalize hTL : ([.slice ao15 p1.length ys15.length, .slice ao17 u1.length ys17.length, .slice ao19 j1.length ys19.length, .slice ao21 v1.length ys21.length, .slice ao23 ss.length ys23.length, .slice ao24 f1.length ys24.length] : List Value) = TL at *
  generalize w31.heap.size = gt at *
  generalize w31.alloc (.cells TL.toArray 23) = wa at *
  clear hTL
  go_loopw [28] (fun x wr => ∃ t : Nat, t ≤ 6 ∧ x = .int .i64 t ∧ Hid (BlkV wr gt 23 TL ∧ (∀ v ∈ TL, OwnE w2.heap.size wr v (1000000000000 + t)) ∧ Below w2.heap.size w2 wr)) (fun x _ => 6 - (intOf x).toNat)
  case atStart => exact ⟨0, by omega, rfl, HTB.out, HOE.out, HBX.out.2.2.2⟩
  case round =>
    obtain ⟨t, ht, rfl, HW⟩ := hrel
    by_cases hlt : t < 6
    · have hkt : t < TL.length := by rw [HEL.out]; exact hlt
      have hcell := HW.out.1.cell t hkt
      have HE : Hid (OwnE w2.heap.size wr TL[t] (1000000000000 + t)) := HW.out.2.1 _ (List.getElem_mem hkt)
      have HC : Hid (Calls Try.prog 34 #[TL[t]] wr fun e w' => e = .returned (.tuple #[]) ∧ Hid ((∀ v', OwnE w2.heap.size wr v' (1000000000000 + t) → OwnE w2.heap.size w' v' (1000000000000 + t + 1)) ∧ Below w2.heap.size wr w' ∧ ∀ g t xs, t ≠ 9 → BlkV wr g t xs → BlkV w' g t xs)) := overE _ _ _ wr HE.out (by omega) HW.out.2.2.size
      obtain ⟨nq, yq, hq⟩ := HE.out
      obtain ⟨aq, hvq, _⟩ := hq.shape
      clear hq HE
      generalize TL[t] = vq at *
      subst hvq
      have h1 : (t : Int) < 6 := by omega
      go_wp2_with fail

      refine HC.out.mono ?_
      rintro e wn ⟨rfl, HN2⟩
      go_wp2_with fail
      refine ⟨⟨t + 1, by omega, by go_num, HN2.out.2.2 _ _ _ (by decide) HW.out.1, fun v hv => HN2.out.1 v (HW.out.2.1 v hv), HW.out.2.2.trans HN2.out.2.1⟩, by simp [intOf]; omega⟩
    · obtain rfl : t = 6 := by omega
      have KB : Hid (Below w0.heap.size w0 wr ∧ BlkV wr w0.heap.size 9 (tv (lentT ss 3)) ∧ BlkV wr w1.heap.size 9 (tv (lentT ts 3))) := ⟨HBX.out.1.trans (HW.out.2.2.mono HBX.out.1.size), HBX.out.2.1.below HW.out.2.2, HBX.out.2.2.1.below HW.out.2.2⟩
      obtain ⟨wz, hwz⟩ : ∃ x, x = wr := ⟨_, rfl⟩
      subst hwz
      go_wp2_with fail

      refine (QK1.out _ _ KB.out.1 KB.out.2.1).mono ?_
      rintro e wk ⟨rfl, BK⟩
      go_wp2_with fail
      refine (QK2.out _ _ (KB.out.1.trans (BK.out.mono KB.out.1.size)) (KB.out.2.2.below BK.out)).mono ?_
      rintro e wl ⟨rfl, BL⟩
      go_wp2_with fail
      go_ret
      exact ⟨rfl, (KB.out.1.trans (BK.out.mono KB.out.1.size)).trans (BL.out.mono (KB.out.1.trans (BK.out.mono KB.out.1.size)).size)⟩
end Go.Proofs.Ytkbpjaojgkpffaa
